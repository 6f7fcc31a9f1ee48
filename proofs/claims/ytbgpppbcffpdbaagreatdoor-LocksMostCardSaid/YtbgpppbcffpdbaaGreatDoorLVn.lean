/- Copy, Holds, Waits and the table of modes of the document (merged of several texts). -/
import Derived.Test.YtbgpppbcffpdbaaGreatDoorLVa
import Derived.Test.YtbgpppbcffpdbaaGreatDoorLFe
import Derived.Test.YtbgpppbcffpdbaaGreatDoorLGm
import Derived.Test.YtbgpppbcffpdbaaGreatDoorLWs
import Derived.Test.YtbgpppbcffpdbaaGreatDoorMRs

/-! copied of the document on locks: a queue in memory of its own. -/
namespace Go.Proofs.YtbgpppbcffpdbaaGreatDoor
open Go.RowKit

theorem fil_h {WA u : World} {g m c : Nat} {q : Option Addr} {l : List HoldD} (hb : Below WA.heap.size WA u) (ho : OwnS 45 u WA.heap.size (.slice (some ⟨g, 0, none⟩) 0 0) ([] : List HoldD)) (hr : SlOn u q m c l) (hm : m ≤ 100000) :
    ∃ q' c' u', (Builtin.append_ #[40, 40] 40 #[.slice (some ⟨g, 0, none⟩) 0 0, .slice q m c]).run Tryz.prog u = .ok (.slice q' m c') u' ∧ Below WA.heap.size WA u' ∧ OwnS 45 u' WA.heap.size (.slice q' m c') l ∧ u.grownBy u' (some g) ∧ (∀ a, q' = some a → a.block = g ∨ a.block = u.heap.size) := by
  obtain ⟨q', c', u', h1, h2, h3, h4⟩ := run_append_l Tryz.underlying40 infoHold rfl 40 ho hr (by omega) (by omega) hb.size
  rw [Nat.zero_add] at h1 h2
  exact ⟨q', c', u', h1, low_step hb h3 (ho.far _ rfl).1, h2, h3, fun a ha => by rw [ha] at h4; rcases h4 with h4 | h4; exact .inl (by simpa using h4); exact .inr (by simpa using h4)⟩
theorem fil_w {WA u : World} {l : List HoldD} {qh : Option Addr} {kh ch g1 m c : Nat} {q : Option Addr} {ws : List WaitD} (h : T3 WA u l qh kh ch g1) (hr : SlOn u q m c ws) (hm : m ≤ 100000) :
    ∃ q' c' u', (Builtin.append_ #[41, 41] 41 #[.slice (some ⟨g1, 0, none⟩) 0 0, .slice q m c]).run Tryz.prog u = .ok (.slice q' m c') u' ∧ T4 WA u' l qh kh ch ws q' m c' := by
  obtain ⟨q', c', u', h1, h2, h3, h4⟩ := run_append_l Tryz.underlying41 infoWait rfl 41 h.ws hr (by omega) (by omega) h.bl.size
  rw [Nat.zero_add] at h1 h2
  exact ⟨q', c', u', h1, low_step h.bl h3 h.ge, h.hs.kept (fun a ha => h3.block _ (h.hs.far a ha).2 (fun e => h.ne a ha (by simpa using e))), h2⟩
/-- the two slices stand in the copy, and the answer's place is as it was -/
theorem cop6 {w WA u4 : World} {t id : Int} {kk : Bool} {hq wq : Option Addr} {hn hc wn wc G : Nat} {zs : List Value} {l : List HoldD} {ws : List WaitD} {qh qw : Option Addr} {kh ch kw cw : Nat} (h : T4 WA u4 l qh kh ch ws qw kw cw) (hz : w.heap.size < WA.heap.size) (hG : G ≠ w.heap.size) (hbA : Below w.heap.size w WA)
    (hr : RowV 43 WA w.heap.size [.int .i64 t, .bool kk, .int .u16 id, .slice hq hn hc, .slice wq wn wc]) (hz5 : RowV 43 WA G zs) (hok : (⟨t, kk, id⟩ : ResD).ok) {u5 u6 : World} (h5 : u4.setCell ⟨w.heap.size, 3, none⟩ (.slice qh kh ch) = u5) (h6 : u5.setCell ⟨w.heap.size, 4, none⟩ (.slice qw kw cw) = u6) :
    Below w.heap.size w u6 ∧ RowV 43 u6 w.heap.size [.int .i64 t, .bool kk, .int .u16 id, .slice qh kh ch, .slice qw kw cw] ∧ QO u6 WA.heap.size ⟨⟨t, kk, id⟩, qh, kh, ch, qw, kw, cw⟩ ⟨⟨t, kk, id⟩, l, ws⟩ ∧ RowV 43 u6 G zs := by
  have hr5 := (hr.below h.bl).set 3 (.slice qh kh ch)
  rw [h5] at hr5
  have hr6 := hr5.set 4 (.slice qw kw cw)
  rw [h6] at hr6
  have hf : Fr (fun j => j = w.heap.size) u4 u6 := by
    refine Fr.trans (b := u5) ?_ ?_
    · rw [← h5]; exact Fr.of_set _ _ _ rfl
    · rw [← h6]; exact Fr.of_set _ _ _ rfl
  have hb4 : Below w.heap.size w u4 := below_step h.bl hbA
  have hz4 := hz5.below h.bl
  exact ⟨hb4.trans (hf.below hb4.size (fun j e => by omega)), hr6, ⟨rfl, hok, h.hs.fr hf (fun a ha e => by have := (h.hs.far a ha).1; omega), h.ws.fr hf (fun a ha e => by have := (h.ws.far a ha).1; omega)⟩, hz4.block (hf.block _ hz4.lt hG)⟩
def CopPost (d : QueD) (w : World) (e : Ending) (w' : World) : Prop := ∃ v' : QV, e = .returned v'.val ∧ QO w' w.heap.size v' d ∧ v'.hn = d.hs.length ∧ v'.wn = d.ws.length ∧ Below w.heap.size w w'

set_option maxRecDepth 100000 in
set_option maxHeartbeats 4000000 in
theorem rcopied_any (v : QV) (d : QueD) (w : World) (h : v.On w d) (hsm : d.hs.length ≤ 100000 ∧ d.ws.length ≤ 100000) :
    Calls Tryz.prog 31 #[v.val] w (CopPost d w) := by
  obtain ⟨⟨t, kk, id⟩, hq, hn, hc, wq, wn, wc⟩ := v
  obtain ⟨res, hs, ws⟩ := d
  have hres := h.res
  simp only at hres
  subst hres
  have h1 := h.hs
  have h2 := h.ws
  have hok : Hid ((⟨t, kk, id⟩ : ResD).ok) := h.ok
  simp only at h1 h2 hsm
  have hl1 : hs.length = hn := h1.len
  have hl2 : ws.length = wn := h2.len
  have hm1 : Hid (hn ≤ 100000) := by show _ ≤ _; omega
  have hm2 : Hid (wn ≤ 100000) := by show _ ≤ _; omega
  have hll := Lib.hid hl1
  have hlw := Lib.hid hl2
  rw [QV.val_eq]
  simp only
  obtain ⟨W0, hW0⟩ : ∃ W, w.alloc (.cells #[.int .i64 t, .bool kk, .int .u16 id, .slice hq hn hc, .slice wq wn wc] 43) = W := ⟨_, rfl⟩
  have hb0 := Lib.hid (one_box (xs := [.int .i64 t, .bool kk, .int .u16 id, .slice hq hn hc, .slice wq wn wc]) hW0)
  have hr0 : Hid (RowV 43 W0 w.heap.size [.int .i64 t, .bool kk, .int .u16 id, .slice hq hn hc, .slice wq wn wc]) := RowV.made' (cs := [.int .i64 t, .bool kk, .int .u16 id, .slice hq hn hc, .slice wq wn wc]) hW0
  obtain ⟨WA, hWA⟩ : ∃ W, W0.alloc (.cells #[.int .i64 0, .bool false, .int .u16 0, .slice none 0 0, .slice none 0 0] 43) = W := ⟨_, rfl⟩
  have hb1 := Lib.hid (one_box (xs := [.int .i64 0, .bool false, .int .u16 0, .slice none 0 0, .slice none 0 0]) hWA)
  have hz1 : Hid (RowV 43 WA W0.heap.size [.int .i64 0, .bool false, .int .u16 0, .slice none 0 0, .slice none 0 0]) := RowV.made' (cs := [.int .i64 0, .bool false, .int .u16 0, .slice none 0 0, .slice none 0 0]) hWA
  have hbA := Lib.hid (below_step hb1.out.1 hb0.out.1)
  have hrA := Lib.hid (hr0.out.below hb1.out.1)
  have hzA : Hid (w.heap.size < WA.heap.size) := by show _ < _; have h3 := hb0.out.2.2; have h4 := hb1.out.2.2; omega
  have hGn : Hid (W0.heap.size ≠ w.heap.size) := by show _ ≠ _; have h3 := hb0.out.2.2; omega
  have hGl : Hid (W0.heap.size < WA.heap.size ∧ w.heap.size < W0.heap.size) := by have h3 := hb0.out.2.2; have h4 := hb1.out.2.2; exact ⟨by omega, by omega⟩
  have hG : Hid (∀ u, Below WA.heap.size WA u → Boxed u w.heap.size [.int .i64 t, .bool kk, .int .u16 id, .slice hq hn hc, .slice wq wn wc]) := fun u hu => hrA.out.boxed.below hu (Nat.le_refl _)
  have hH0 : Hid (∀ u, Below WA.heap.size WA u → SlOn u hq hn hc hs) := fun u hu => h1.below (below_step hu hbA.out) (Nat.le_refl _)
  have hWs0 : Hid (∀ u, Below WA.heap.size WA u → SlOn u wq wn wc ws) := fun u hu => h2.below (below_step hu hbA.out) (Nat.le_refl _)
  clear h1 h2 h hl1 hl2 hsm
  go_enter Tryz.func31, Tryz.ntmps31
  go_wp2_with fail
  clear hW0 hWA
  refine wp_region_x (by kernel_rfl) 9 (fun u => Below WA.heap.size WA u) ?_
  change wpAnyX _ _ _ _ _ _ _ _ _ (World.drew WA)
  have b0 : Below WA.heap.size WA (World.drew WA) := below_drew' WA
  refine x_take (i := 1) (dst := some 4) (v := (.pointer (some ⟨w.heap.size, 3, none⟩))) rfl rfl (by kernel_rfl) (by kernel_rfl) (by kernel_rfl) (by kernel_rfl) (by kernel_rfl) (fun _ _ _ h => h) (.inl ⟨rfl, fun u hu => by go_simp⟩) b0 ?_
  go_frame
  refine x_take (i := 2) (dst := some 5) (v := (.slice hq hn hc)) rfl rfl (by kernel_rfl) (by kernel_rfl) (by kernel_rfl) (by kernel_rfl) (by kernel_rfl) (fun _ _ _ h => h) (.inl ⟨rfl, fun u hu => by have c := (hG.out u hu).cell 3 rfl; go_simp⟩) b0 ?_
  go_frame
  refine x_take (i := 5) (dst := some 8) (v := (.pointer (some ⟨w.heap.size, 4, none⟩))) rfl rfl (by kernel_rfl) (by kernel_rfl) (by kernel_rfl) (by kernel_rfl) (by kernel_rfl) (fun _ _ _ h => h) (.inl ⟨rfl, fun u hu => by go_simp⟩) b0 ?_
  go_frame
  refine x_take (i := 6) (dst := some 9) (v := (.slice wq wn wc)) rfl rfl (by kernel_rfl) (by kernel_rfl) (by kernel_rfl) (by kernel_rfl) (by kernel_rfl) (fun _ _ _ h => h) (.inl ⟨rfl, fun u hu => by have c := (hG.out u hu).cell 4 rfl; go_simp⟩) b0 ?_
  go_frame
  have bb_u0 := b0
  clear b0
  generalize World.drew WA = u0 at bb_u0 ⊢
  refine x_two (i := 0) (j := 4) (di := some 3) (dj := some 7) rfl rfl rfl rfl (by kernel_rfl) rfl rfl ?_ ?_
  · obtain ⟨u1, hu1⟩ : ∃ x, u0.alloc (.cells #[] 45) = x := ⟨_, rfl⟩
    have bb_u1 : Below WA.heap.size WA u1 := by rw [← hu1]; exact bb_u0.alloc bb_u0.size _
    refine EndsV.mk' (w' := u1) (v := .slice (some ⟨u0.heap.size, 0, none⟩) 0 0) (by rw [← hu1]; go_simp) ⟨bb_u1, ?_⟩
    go_frame
    have o1 := OwnS.mono (OwnS.empty (α := HoldD) hu1 rfl) bb_u0.size
    refine x_two (i := 3) (j := 4) (di := some 6) (dj := some 7) rfl rfl rfl rfl (by kernel_rfl) rfl rfl ?_ ?_
    · obtain ⟨qh, ch, u2, r8, bb_u2, o2, g2, q2⟩ := fil_h bb_u1 o1 (hH0.out _ bb_u1) hm1.out
      refine EndsV.mk' (run_append_op (s := .tmp 3) (x := .tmp 5) rfl rfl rfl r8) ⟨bb_u2, ?_⟩
      go_frame
      refine x_pure (i := 8) (dst := some 11) (v := (.pointer (some ⟨w.heap.size, 3, none⟩))) rfl rfl (by kernel_rfl) (by kernel_rfl) (by kernel_rfl) (by kernel_rfl) (fun _ _ _ h => h) (.inl ⟨rfl, fun u hu => by go_simp⟩) (fun _ => bb_u2) ?_
      go_frame
      obtain ⟨u3, hu3⟩ : ∃ x, u2.alloc (.cells #[] 47) = x := ⟨_, rfl⟩
      have t3 := way_1 bb_u2 o2 hu3
      refine x_value (i := 4) (dst := some 7) (w' := u3) (v := .slice (some ⟨u2.heap.size, 0, none⟩) 0 0) rfl rfl (by kernel_rfl) rfl (by rw [← hu3]; go_simp) (fun _ => t3.bl) ?_
      go_frame
      clear r8 o1 o2 g2 q2 hu1 hu3
      obtain ⟨qw, cw, u4, r17, t4⟩ := fil_w t3 (hWs0.out _ t3.bl) hm2.out
      refine x_value (i := 7) (dst := some 10) (w' := u4) rfl rfl (by kernel_rfl) rfl (run_append_op (s := .tmp 7) (x := .tmp 9) rfl rfl rfl r17) (fun _ => t4.bl) ?_
      go_frame
      obtain ⟨u5, h5⟩ : ∃ x, u4.setCell ⟨w.heap.size, 3, none⟩ (.slice qh hn ch) = x := ⟨_, rfl⟩
      obtain ⟨u6, h6⟩ : ∃ x, u5.setCell ⟨w.heap.size, 4, none⟩ (.slice qw wn cw) = x := ⟨_, rfl⟩
      have hf6 := Lib.hid (cop6 t4 hzA.out hGn.out hbA.out hrA.out hz1.out hok.out h5 h6)
      have g4 := hrA.out.below t4.bl
      have c4 : u4.cell? ⟨w.heap.size, 3, none⟩ = some (.slice hq hn hc) := g4.cell 3
      have f4 : u4.frozen? ⟨w.heap.size, 3, none⟩ = false := g4.free 3
      have g5 := g4.set 3 (.slice qh hn ch)
      rw [h5] at g5
      have c5 : u5.cell? ⟨w.heap.size, 4, none⟩ = some (.slice wq wn wc) := g5.cell 4
      have f5 : u5.frozen? ⟨w.heap.size, 4, none⟩ = false := g5.free 4
      have st4 : (storeVar 40 ⟨w.heap.size, 3, none⟩ (.slice qh hn ch)).run Tryz.prog u4 = .ok () u5 := by rw [← h5]; go_simp
      have st5 : (storeVar 41 ⟨w.heap.size, 4, none⟩ (.slice qw wn cw)).run Tryz.prog u5 = .ok () u6 := by rw [← h6]; go_simp
      refine x_skip (i := 9) (dst := none) rfl rfl (by kernel_rfl) rfl (run_store_op (x := .tmp 11) (y := .tmp 6) rfl rfl rfl st4) (no_x (by kernel_rfl)) ?_
      go_frame
      refine x_pure (i := 10) (dst := some 12) (v := (.pointer (some ⟨w.heap.size, 4, none⟩))) rfl rfl (by kernel_rfl) (by kernel_rfl) (by kernel_rfl) (by kernel_rfl) (fun _ _ _ h => h) (.inl ⟨rfl, fun u hu => by go_simp⟩) (no_x (by kernel_rfl)) ?_
      go_frame
      refine x_skip (i := 11) (dst := none) rfl rfl (by kernel_rfl) rfl (run_store_op (x := .tmp 12) (y := .tmp 10) rfl rfl rfl st5) (no_x (by kernel_rfl)) ?_
      go_frame
      refine x_done (by kernel_rfl) ?_
      clear h5 h6 c4 f4 g4 g5 c5 f5 st4 st5 r17 t4 t3
      obtain ⟨b6, r6, o6, z6⟩ := hf6.out
      have b6' := Lib.hid b6
      have o6' := Lib.hid o6
      have r6' := Lib.hid r6
      have z6' := Lib.hid z6
      have s6 := sizeQue (.int .i64 t) (.bool kk) (.int .u16 id) (.slice qh hn ch) (.slice qw wn cw)
      have hone : ∀ y ∈ ([.int .i64 t, .bool kk, .int .u16 id, .slice qh hn ch, .slice qw wn cw] : List Value), y.oneCell' = true := fun y hy => by simp only [List.mem_cons, List.not_mem_nil, or_false] at hy; rcases hy with rfl | rfl | rfl | rfl | rfl <;> rfl
      clear b6 r6 o6 z6 hf6
      go_wp2_with (first
        | (with_reducible refine wpList_load_at rfl 43 (.tmp 1) rfl Tryz.underlying43 rfl s6 rfl r6'.out.boxed.all ?_)
        | ((with_reducible refine wpList_store_at rfl 43 (.tmp 2) (.tmp 13) rfl (o := 0) (vs := [.int .i64 t, .bool kk, .int .u16 id, .slice qh hn ch, .slice qw wn cw]) rfl rfl z6'.out s6 (Nat.le_refl _) hone ?_)
           intro w9 h9 hg9
           have q9 : Hid (RowV 43 w9 W0.heap.size [.int .i64 t, .bool kk, .int .u16 id, .slice qh hn ch, .slice qw wn cw]) := h9
           have hg9' := Lib.hid hg9
           clear h9 hg9))
      have m0 := q9.out.cell 0
      have m1 := q9.out.cell 1
      have m2 := q9.out.cell 2
      have m3 := q9.out.cell 3
      have m4 := q9.out.cell 4
      simp only [List.getElem?_cons_zero, List.getElem?_cons_succ] at m0 m1 m2 m3 m4
      exact bodyPost_ret (v := .agg #[.int .i64 t, .bool kk, .int .u16 id, .slice qh hn ch, .slice qw wn cw]) (by simp [results, Tryz.results31, go_sem, m0, m1, m2, m3, m4]) rfl ⟨⟨⟨t, kk, id⟩, qh, hn, ch, qw, wn, cw⟩, rfl, (o6'.out.fr (Fr.of_grown (S := fun j => j = W0.heap.size) hg9'.out (fun k e => by cases e; rfl)) (fun b hb e => by have h7 := (o6'.out.lt b hb).1; have h8 := hGl.out.1; have e2 : b = W0.heap.size := e; omega)).mono (Nat.le_of_lt hzA.out), hll.out.symm, hlw.out.symm, low_step b6'.out hg9'.out (Nat.le_of_lt hGl.out.2)⟩
    · obtain ⟨u2, hu2⟩ : ∃ x, u1.alloc (.cells #[] 47) = x := ⟨_, rfl⟩
      have bb_u2 : Below WA.heap.size WA u2 := by rw [← hu2]; exact bb_u1.alloc bb_u1.size _
      refine EndsV.mk' (w' := u2) (v := .slice (some ⟨u1.heap.size, 0, none⟩) 0 0) (by rw [← hu2]; go_simp) ⟨bb_u2, ?_⟩
      go_frame
      have w2 := OwnS.mono (OwnS.empty (α := WaitD) hu2 rfl) bb_u1.size
      have o2 := o1.below (w' := u2) (by rw [← hu2]; exact (Below.refl _ _).alloc (Nat.le_refl _) _)
      have hlt := (o1.far _ rfl).2
      obtain ⟨qh, ch, u3, r8, bb_u3, o3, g3, q3⟩ := fil_h bb_u2 o2 (hH0.out _ bb_u2) hm1.out
      have t3 := way_2 w2 (Nat.ne_of_lt hlt) bb_u3 o3 g3 q3
      refine x_value (i := 3) (dst := some 6) (w' := u3) rfl rfl (by kernel_rfl) rfl (run_append_op (s := .tmp 3) (x := .tmp 5) rfl rfl rfl r8) (fun _ => bb_u3) ?_
      go_frame
      refine x_pure (i := 8) (dst := some 11) (v := (.pointer (some ⟨w.heap.size, 3, none⟩))) rfl rfl (by kernel_rfl) (by kernel_rfl) (by kernel_rfl) (by kernel_rfl) (fun _ _ _ h => h) (.inl ⟨rfl, fun u hu => by go_simp⟩) (fun _ => bb_u3) ?_
      go_frame
      clear r8 o1 o2 o3 g3 q3 hu1 hu2 w2 hlt
      obtain ⟨qw, cw, u4, r17, t4⟩ := fil_w t3 (hWs0.out _ t3.bl) hm2.out
      refine x_value (i := 7) (dst := some 10) (w' := u4) rfl rfl (by kernel_rfl) rfl (run_append_op (s := .tmp 7) (x := .tmp 9) rfl rfl rfl r17) (fun _ => t4.bl) ?_
      go_frame
      obtain ⟨u5, h5⟩ : ∃ x, u4.setCell ⟨w.heap.size, 3, none⟩ (.slice qh hn ch) = x := ⟨_, rfl⟩
      obtain ⟨u6, h6⟩ : ∃ x, u5.setCell ⟨w.heap.size, 4, none⟩ (.slice qw wn cw) = x := ⟨_, rfl⟩
      have hf6 := Lib.hid (cop6 t4 hzA.out hGn.out hbA.out hrA.out hz1.out hok.out h5 h6)
      have g4 := hrA.out.below t4.bl
      have c4 : u4.cell? ⟨w.heap.size, 3, none⟩ = some (.slice hq hn hc) := g4.cell 3
      have f4 : u4.frozen? ⟨w.heap.size, 3, none⟩ = false := g4.free 3
      have g5 := g4.set 3 (.slice qh hn ch)
      rw [h5] at g5
      have c5 : u5.cell? ⟨w.heap.size, 4, none⟩ = some (.slice wq wn wc) := g5.cell 4
      have f5 : u5.frozen? ⟨w.heap.size, 4, none⟩ = false := g5.free 4
      have st4 : (storeVar 40 ⟨w.heap.size, 3, none⟩ (.slice qh hn ch)).run Tryz.prog u4 = .ok () u5 := by rw [← h5]; go_simp
      have st5 : (storeVar 41 ⟨w.heap.size, 4, none⟩ (.slice qw wn cw)).run Tryz.prog u5 = .ok () u6 := by rw [← h6]; go_simp
      refine x_skip (i := 9) (dst := none) rfl rfl (by kernel_rfl) rfl (run_store_op (x := .tmp 11) (y := .tmp 6) rfl rfl rfl st4) (no_x (by kernel_rfl)) ?_
      go_frame
      refine x_pure (i := 10) (dst := some 12) (v := (.pointer (some ⟨w.heap.size, 4, none⟩))) rfl rfl (by kernel_rfl) (by kernel_rfl) (by kernel_rfl) (by kernel_rfl) (fun _ _ _ h => h) (.inl ⟨rfl, fun u hu => by go_simp⟩) (no_x (by kernel_rfl)) ?_
      go_frame
      refine x_skip (i := 11) (dst := none) rfl rfl (by kernel_rfl) rfl (run_store_op (x := .tmp 12) (y := .tmp 10) rfl rfl rfl st5) (no_x (by kernel_rfl)) ?_
      go_frame
      refine x_done (by kernel_rfl) ?_
      clear h5 h6 c4 f4 g4 g5 c5 f5 st4 st5 r17 t4 t3
      obtain ⟨b6, r6, o6, z6⟩ := hf6.out
      have b6' := Lib.hid b6
      have o6' := Lib.hid o6
      have r6' := Lib.hid r6
      have z6' := Lib.hid z6
      have s6 := sizeQue (.int .i64 t) (.bool kk) (.int .u16 id) (.slice qh hn ch) (.slice qw wn cw)
      have hone : ∀ y ∈ ([.int .i64 t, .bool kk, .int .u16 id, .slice qh hn ch, .slice qw wn cw] : List Value), y.oneCell' = true := fun y hy => by simp only [List.mem_cons, List.not_mem_nil, or_false] at hy; rcases hy with rfl | rfl | rfl | rfl | rfl <;> rfl
      clear b6 r6 o6 z6 hf6
      go_wp2_with (first
        | (with_reducible refine wpList_load_at rfl 43 (.tmp 1) rfl Tryz.underlying43 rfl s6 rfl r6'.out.boxed.all ?_)
        | ((with_reducible refine wpList_store_at rfl 43 (.tmp 2) (.tmp 13) rfl (o := 0) (vs := [.int .i64 t, .bool kk, .int .u16 id, .slice qh hn ch, .slice qw wn cw]) rfl rfl z6'.out s6 (Nat.le_refl _) hone ?_)
           intro w9 h9 hg9
           have q9 : Hid (RowV 43 w9 W0.heap.size [.int .i64 t, .bool kk, .int .u16 id, .slice qh hn ch, .slice qw wn cw]) := h9
           have hg9' := Lib.hid hg9
           clear h9 hg9))
      have m0 := q9.out.cell 0
      have m1 := q9.out.cell 1
      have m2 := q9.out.cell 2
      have m3 := q9.out.cell 3
      have m4 := q9.out.cell 4
      simp only [List.getElem?_cons_zero, List.getElem?_cons_succ] at m0 m1 m2 m3 m4
      exact bodyPost_ret (v := .agg #[.int .i64 t, .bool kk, .int .u16 id, .slice qh hn ch, .slice qw wn cw]) (by simp [results, Tryz.results31, go_sem, m0, m1, m2, m3, m4]) rfl ⟨⟨⟨t, kk, id⟩, qh, hn, ch, qw, wn, cw⟩, rfl, (o6'.out.fr (Fr.of_grown (S := fun j => j = W0.heap.size) hg9'.out (fun k e => by cases e; rfl)) (fun b hb e => by have h7 := (o6'.out.lt b hb).1; have h8 := hGl.out.1; have e2 : b = W0.heap.size := e; omega)).mono (Nat.le_of_lt hzA.out), hll.out.symm, hlw.out.symm, low_step b6'.out hg9'.out (Nat.le_of_lt hGl.out.2)⟩
  · obtain ⟨u1, hu1⟩ : ∃ x, u0.alloc (.cells #[] 47) = x := ⟨_, rfl⟩
    have bb_u1 : Below WA.heap.size WA u1 := by rw [← hu1]; exact bb_u0.alloc bb_u0.size _
    refine EndsV.mk' (w' := u1) (v := .slice (some ⟨u0.heap.size, 0, none⟩) 0 0) (by rw [← hu1]; go_simp) ⟨bb_u1, ?_⟩
    go_frame
    have w1 := OwnS.mono (OwnS.empty (α := WaitD) hu1 rfl) bb_u0.size
    obtain ⟨u2, hu2⟩ : ∃ x, u1.alloc (.cells #[] 45) = x := ⟨_, rfl⟩
    have bb_u2 : Below WA.heap.size WA u2 := by rw [← hu2]; exact bb_u1.alloc bb_u1.size _
    have o2 := OwnS.mono (OwnS.empty (α := HoldD) hu2 rfl) bb_u1.size
    have w2 := w1.below (w' := u2) (by rw [← hu2]; exact (Below.refl _ _).alloc (Nat.le_refl _) _)
    have hlt := (w1.far _ rfl).2
    refine x_value (i := 0) (dst := some 3) (w' := u2) (v := .slice (some ⟨u1.heap.size, 0, none⟩) 0 0) rfl rfl (by kernel_rfl) rfl (by rw [← hu2]; go_simp) (fun _ => bb_u2) ?_
    go_frame
    obtain ⟨qh, ch, u3, r8, bb_u3, o3, g3, q3⟩ := fil_h bb_u2 o2 (hH0.out _ bb_u2) hm1.out
    have t3 := way_2 w2 (Nat.ne_of_gt hlt) bb_u3 o3 g3 q3
    refine x_value (i := 3) (dst := some 6) (w' := u3) rfl rfl (by kernel_rfl) rfl (run_append_op (s := .tmp 3) (x := .tmp 5) rfl rfl rfl r8) (fun _ => bb_u3) ?_
    go_frame
    refine x_pure (i := 8) (dst := some 11) (v := (.pointer (some ⟨w.heap.size, 3, none⟩))) rfl rfl (by kernel_rfl) (by kernel_rfl) (by kernel_rfl) (by kernel_rfl) (fun _ _ _ h => h) (.inl ⟨rfl, fun u hu => by go_simp⟩) (fun _ => bb_u3) ?_
    go_frame
    clear r8 o2 o3 g3 q3 hu1 hu2 w1 w2 hlt
    obtain ⟨qw, cw, u4, r17, t4⟩ := fil_w t3 (hWs0.out _ t3.bl) hm2.out
    refine x_value (i := 7) (dst := some 10) (w' := u4) rfl rfl (by kernel_rfl) rfl (run_append_op (s := .tmp 7) (x := .tmp 9) rfl rfl rfl r17) (fun _ => t4.bl) ?_
    go_frame
    obtain ⟨u5, h5⟩ : ∃ x, u4.setCell ⟨w.heap.size, 3, none⟩ (.slice qh hn ch) = x := ⟨_, rfl⟩
    obtain ⟨u6, h6⟩ : ∃ x, u5.setCell ⟨w.heap.size, 4, none⟩ (.slice qw wn cw) = x := ⟨_, rfl⟩
    have hf6 := Lib.hid (cop6 t4 hzA.out hGn.out hbA.out hrA.out hz1.out hok.out h5 h6)
    have g4 := hrA.out.below t4.bl
    have c4 : u4.cell? ⟨w.heap.size, 3, none⟩ = some (.slice hq hn hc) := g4.cell 3
    have f4 : u4.frozen? ⟨w.heap.size, 3, none⟩ = false := g4.free 3
    have g5 := g4.set 3 (.slice qh hn ch)
    rw [h5] at g5
    have c5 : u5.cell? ⟨w.heap.size, 4, none⟩ = some (.slice wq wn wc) := g5.cell 4
    have f5 : u5.frozen? ⟨w.heap.size, 4, none⟩ = false := g5.free 4
    have st4 : (storeVar 40 ⟨w.heap.size, 3, none⟩ (.slice qh hn ch)).run Tryz.prog u4 = .ok () u5 := by rw [← h5]; go_simp
    have st5 : (storeVar 41 ⟨w.heap.size, 4, none⟩ (.slice qw wn cw)).run Tryz.prog u5 = .ok () u6 := by rw [← h6]; go_simp
    refine x_skip (i := 9) (dst := none) rfl rfl (by kernel_rfl) rfl (run_store_op (x := .tmp 11) (y := .tmp 6) rfl rfl rfl st4) (no_x (by kernel_rfl)) ?_
    go_frame
    refine x_pure (i := 10) (dst := some 12) (v := (.pointer (some ⟨w.heap.size, 4, none⟩))) rfl rfl (by kernel_rfl) (by kernel_rfl) (by kernel_rfl) (by kernel_rfl) (fun _ _ _ h => h) (.inl ⟨rfl, fun u hu => by go_simp⟩) (no_x (by kernel_rfl)) ?_
    go_frame
    refine x_skip (i := 11) (dst := none) rfl rfl (by kernel_rfl) rfl (run_store_op (x := .tmp 12) (y := .tmp 10) rfl rfl rfl st5) (no_x (by kernel_rfl)) ?_
    go_frame
    refine x_done (by kernel_rfl) ?_
    clear h5 h6 c4 f4 g4 g5 c5 f5 st4 st5 r17 t4 t3
    obtain ⟨b6, r6, o6, z6⟩ := hf6.out
    have b6' := Lib.hid b6
    have o6' := Lib.hid o6
    have r6' := Lib.hid r6
    have z6' := Lib.hid z6
    have s6 := sizeQue (.int .i64 t) (.bool kk) (.int .u16 id) (.slice qh hn ch) (.slice qw wn cw)
    have hone : ∀ y ∈ ([.int .i64 t, .bool kk, .int .u16 id, .slice qh hn ch, .slice qw wn cw] : List Value), y.oneCell' = true := fun y hy => by simp only [List.mem_cons, List.not_mem_nil, or_false] at hy; rcases hy with rfl | rfl | rfl | rfl | rfl <;> rfl
    clear b6 r6 o6 z6 hf6
    go_wp2_with (first
      | (with_reducible refine wpList_load_at rfl 43 (.tmp 1) rfl Tryz.underlying43 rfl s6 rfl r6'.out.boxed.all ?_)
      | ((with_reducible refine wpList_store_at rfl 43 (.tmp 2) (.tmp 13) rfl (o := 0) (vs := [.int .i64 t, .bool kk, .int .u16 id, .slice qh hn ch, .slice qw wn cw]) rfl rfl z6'.out s6 (Nat.le_refl _) hone ?_)
         intro w9 h9 hg9
         have q9 : Hid (RowV 43 w9 W0.heap.size [.int .i64 t, .bool kk, .int .u16 id, .slice qh hn ch, .slice qw wn cw]) := h9
         have hg9' := Lib.hid hg9
         clear h9 hg9))
    have m0 := q9.out.cell 0
    have m1 := q9.out.cell 1
    have m2 := q9.out.cell 2
    have m3 := q9.out.cell 3
    have m4 := q9.out.cell 4
    simp only [List.getElem?_cons_zero, List.getElem?_cons_succ] at m0 m1 m2 m3 m4
    exact bodyPost_ret (v := .agg #[.int .i64 t, .bool kk, .int .u16 id, .slice qh hn ch, .slice qw wn cw]) (by simp [results, Tryz.results31, go_sem, m0, m1, m2, m3, m4]) rfl ⟨⟨⟨t, kk, id⟩, qh, hn, ch, qw, wn, cw⟩, rfl, (o6'.out.fr (Fr.of_grown (S := fun j => j = W0.heap.size) hg9'.out (fun k e => by cases e; rfl)) (fun b hb e => by have h7 := (o6'.out.lt b hb).1; have h8 := hGl.out.1; have e2 : b = W0.heap.size := e; omega)).mono (Nat.le_of_lt hzA.out), hll.out.symm, hlw.out.symm, low_step b6'.out hg9'.out (Nat.le_of_lt hGl.out.2)⟩
end Go.Proofs.YtbgpppbcffpdbaaGreatDoor

/-! holds and waits of the document on locks: a hold, a waiter laid in its place. -/
namespace Go.Proofs.YtbgpppbcffpdbaaGreatDoor
open Go.RowKit

theorem below_gr2 {B : Nat} {w u u' : World} {q : Option Addr} (h : Below B w u) (hB : B ≤ w.heap.size) (hg : u.grownBy u' (q.map (·.block))) (hq : ∀ a, q = some a → B ≤ a.block) : Below B w u' :=
  h.trans ⟨hg.os, hg.tape, hg.output, hg.size, fun k hk => hg.block k (by have := h.size; omega) (fun e => by
    cases q with
    | none => cases e
    | some a => have h1 := hq a rfl; have h2 : k = a.block := by simpa using e
                omega)⟩
/-- a hold is laid among holders, one by one -/
def hStep (x m : Int) (s : List HoldD × Bool) (h : HoldD) : List HoldD × Bool :=
  if h.x = x then (if s.2 = false then (s.1 ++ [⟨x, m⟩], true) else s)
  else if s.2 = false ∧ x < h.x then (s.1 ++ [⟨x, m⟩] ++ [h], true) else (s.1 ++ [h], s.2)
def hFold (hs : List HoldD) (x m : Int) (i : Nat) : List HoldD × Bool := (hs.take i).foldl (hStep x m) ([], false)
theorem hFold_next {hs : List HoldD} {x m : Int} {i : Nat} {a : HoldD} (h : hs[i]? = some a) : hFold hs x m (i + 1) = hStep x m (hFold hs x m i) a := by
  unfold hFold
  rw [List.take_add_one, h, List.foldl_append]
  rfl
def cB (b : Bool) : Nat := if b = true then 0 else 1
theorem hf_len {x m : Int} : ∀ (l : List HoldD) (s : List HoldD × Bool), (l.foldl (hStep x m) s).1.length + cB (l.foldl (hStep x m) s).2 ≤ s.1.length + cB s.2 + l.length
  | [], s => Nat.le_refl _
  | a :: l, s => by
    rw [List.foldl_cons]
    have h1 := hf_len (x := x) (m := m) l (hStep x m s a)
    have h2 : (hStep x m s a).1.length + cB (hStep x m s a).2 ≤ s.1.length + cB s.2 + 1 := by
      obtain ⟨s1, s2⟩ := s
      unfold hStep
      cases s2 <;> (repeat' split) <;> simp_all [cB] <;> omega
    simp only [List.length_cons]
    omega
theorem hFold_len (hs : List HoldD) (x m : Int) (i : Nat) : (hFold hs x m i).1.length ≤ i + 1 := by
  have h := hf_len (x := x) (m := m) (hs.take i) ([], false)
  have h2 : (hs.take i).length ≤ i := List.length_take_le _ _
  unfold hFold
  simp only [cB, List.length_nil, Bool.false_eq_true, if_false] at h
  omega
def grL (x m : Int) : List HoldD → List HoldD
  | [] => [⟨x, m⟩]
  | h :: t => if h.x < x then h :: grL x m t else if h.x = x then ⟨x, m⟩ :: t else ⟨x, m⟩ :: h :: t
theorem grL_eq {x m : Int} : ∀ hs : List HoldD, grantH hs ⟨x, m⟩ = grL x m hs
  | [] => by simp [grantH, fndH, posH, grL]
  | h :: t => by
    have ih := grL_eq (x := x) (m := m) t
    unfold grL
    by_cases h1 : h.x < x
    · have hp : posH (h :: t) x = posH t x + 1 := by unfold posH; rw [List.takeWhile_cons]; simp [h1]
      have hf : fndH (h :: t) x = fndH t x := by unfold fndH; rw [hp]; simp
      rw [if_pos h1, ← ih]
      unfold grantH
      simp only [hf, hp]
      split <;> simp
    · have hp : posH (h :: t) x = 0 := by unfold posH; rw [List.takeWhile_cons]; simp [h1]
      have hf : fndH (h :: t) x = decide (h.x = x) := by unfold fndH; rw [hp]; simp
      rw [if_neg h1]
      unfold grantH
      simp only [hf, hp]
      by_cases h2 : h.x = x <;> simp [h2]
def hFin (x m : Int) (s : List HoldD × Bool) : List HoldD := if s.2 = true then s.1 else s.1 ++ [⟨x, m⟩]
theorem hf_true {x m : Int} : ∀ (t acc : List HoldD), (∀ b ∈ t, b.x ≠ x) → t.foldl (hStep x m) (acc, true) = (acc ++ t, true)
  | [], acc, _ => by simp
  | a :: t, acc, h => by
    have ha := h a List.mem_cons_self
    rw [List.foldl_cons, show hStep x m (acc, true) a = (acc ++ [a], true) by unfold hStep; simp [ha], hf_true t _ (fun b hb => h b (List.mem_cons_of_mem _ hb))]
    simp
theorem hf_false {x m : Int} : ∀ (hs acc : List HoldD), SortH hs → hFin x m (hs.foldl (hStep x m) (acc, false)) = acc ++ grL x m hs
  | [], acc, _ => by simp [hFin, grL]
  | h :: t, acc, hso => by
    have hc := List.pairwise_cons.1 hso
    rw [List.foldl_cons]
    unfold grL
    by_cases h1 : h.x < x
    · rw [show hStep x m (acc, false) h = (acc ++ [h], false) by unfold hStep; rw [if_neg (by omega), if_neg (by simp; omega)], hf_false t _ hc.2, if_pos h1]
      simp
    · rw [if_neg h1]
      by_cases h2 : h.x = x
      · rw [show hStep x m (acc, false) h = (acc ++ [⟨x, m⟩], true) by unfold hStep; simp [h2], hf_true t _ (fun b hb => by have := hc.1 b hb; omega), if_pos h2]
        simp [hFin]
      · rw [show hStep x m (acc, false) h = (acc ++ [⟨x, m⟩] ++ [h], true) by unfold hStep; rw [if_neg h2, if_pos ⟨rfl, by omega⟩], hf_true t _ (fun b hb => by have := hc.1 b hb; omega), if_neg h2]
        simp [hFin]
theorem hFold_done {hs : List HoldD} {x m : Int} {n : Nat} (hso : SortH hs) (hl : hs.length = n) : hFin x m (hFold hs x m n) = grantH hs ⟨x, m⟩ := by
  unfold hFold
  rw [List.take_of_length_le (by omega), hf_false hs [] hso, grL_eq, List.nil_append]
/-- a waiter is laid in its place, one by one -/
def wStep (a : WaitD) (s : List WaitD × Bool) (b : WaitD) : List WaitD × Bool :=
  if s.2 = false ∧ a.h ≠ 0 ∧ b.h = 0 then (s.1 ++ [a] ++ [b], true) else (s.1 ++ [b], s.2)
def wFold (ws : List WaitD) (a : WaitD) (i : Nat) : List WaitD × Bool := (ws.take i).foldl (wStep a) ([], false)
theorem wFold_next {ws : List WaitD} {a : WaitD} {i : Nat} {b : WaitD} (h : ws[i]? = some b) : wFold ws a (i + 1) = wStep a (wFold ws a i) b := by
  unfold wFold
  rw [List.take_add_one, h, List.foldl_append]
  rfl
theorem wf_len {a : WaitD} : ∀ (l : List WaitD) (s : List WaitD × Bool), (l.foldl (wStep a) s).1.length + cB (l.foldl (wStep a) s).2 ≤ s.1.length + cB s.2 + l.length
  | [], s => Nat.le_refl _
  | b :: l, s => by
    rw [List.foldl_cons]
    have h1 := wf_len (a := a) l (wStep a s b)
    have h2 : (wStep a s b).1.length + cB (wStep a s b).2 ≤ s.1.length + cB s.2 + 1 := by
      obtain ⟨s1, s2⟩ := s
      unfold wStep
      cases s2 <;> (repeat' split) <;> simp_all [cB]
    simp only [List.length_cons]
    omega
theorem wFold_len (ws : List WaitD) (a : WaitD) (i : Nat) : (wFold ws a i).1.length ≤ i + 1 := by
  have h := wf_len (a := a) (ws.take i) ([], false)
  have h2 : (ws.take i).length ≤ i := List.length_take_le _ _
  unfold wFold
  simp only [cB, List.length_nil, Bool.false_eq_true, if_false] at h
  omega
def wFin (a : WaitD) (s : List WaitD × Bool) : List WaitD := if s.2 = true then s.1 else s.1 ++ [a]
theorem wf_true {a : WaitD} : ∀ (t acc : List WaitD), t.foldl (wStep a) (acc, true) = (acc ++ t, true)
  | [], acc => by simp
  | b :: t, acc => by
    rw [List.foldl_cons, show wStep a (acc, true) b = (acc ++ [b], true) by unfold wStep; simp, wf_true t]
    simp
theorem wf_not {a : WaitD} (ha : a.h = 0) : ∀ (t acc : List WaitD), t.foldl (wStep a) (acc, false) = (acc ++ t, false)
  | [], acc => by simp
  | b :: t, acc => by
    rw [List.foldl_cons, show wStep a (acc, false) b = (acc ++ [b], false) by unfold wStep; simp [ha], wf_not ha t]
    simp
theorem wf_conv {a : WaitD} (ha : a.h ≠ 0) : ∀ (ws acc : List WaitD), wFin a (ws.foldl (wStep a) (acc, false)) = acc ++ (ws.take (ws.takeWhile convB).length ++ a :: ws.drop (ws.takeWhile convB).length)
  | [], acc => by simp [wFin]
  | b :: t, acc => by
    rw [List.foldl_cons, List.takeWhile_cons]
    by_cases hb : b.h = 0
    · have hc : convB b = false := by unfold convB; simp [hb]
      rw [show wStep a (acc, false) b = (acc ++ [a] ++ [b], true) by unfold wStep; simp [ha, hb], wf_true]
      simp [wFin, hc]
    · have hc : convB b = true := by unfold convB; simpa using hb
      rw [show wStep a (acc, false) b = (acc ++ [b], false) by unfold wStep; simp [hb], wf_conv ha t]
      simp [hc]
theorem wFold_done {ws : List WaitD} {a : WaitD} {n : Nat} (hl : ws.length = n) : wFin a (wFold ws a n) = ws.take (lineP ws a) ++ a :: ws.drop (lineP ws a) := by
  unfold wFold lineP
  rw [List.take_of_length_le (by omega)]
  by_cases ha : a.h = 0
  · rw [wf_not ha, if_neg (by unfold convB; simp [ha])]
    simp [wFin]
  · rw [wf_conv ha, if_pos (by unfold convB; simpa using ha), List.nil_append]

/-- a list that is being laid -/
structure LayR {α : Type} [Cel α] (T : TypeId) (W : World) (l : List α) (q : Option Addr) (c : Nat) (wr : World) : Prop where
  row : OwnS T wr W.heap.size (.slice q l.length c) l
  bw : Below W.heap.size W wr
theorem LayR.next {α : Type} [Cel α] {T : TypeId} {W wr u u' : World} {l : List α} {a : α} {q q' : Option Addr} {c c' : Nat} (h : LayR T W l q c wr) (hb : Below wr.heap.size wr u) (hr : OwnS T u' W.heap.size (.slice q' (l.length + 1) c') (l ++ [a])) (hg : u.grownBy u' (q.map (·.block))) : LayR T W (l ++ [a]) q' c' u' :=
  ⟨by rw [List.length_append]; exact hr, below_gr2 (below_step hb h.bw) (Nat.le_refl _) hg (fun a ha => (h.row.far a ha).1)⟩
theorem LayR.row' {α : Type} [Cel α] {T : TypeId} {W wr : World} {l : List α} {a : α} {q : Option Addr} {c : Nat} (h : LayR T W (l ++ [a]) q c wr) : OwnS T wr W.heap.size (.slice q (l.length + 1) c) (l ++ [a]) := by
  have h1 := h.row
  rw [List.length_append] at h1
  exact h1
theorem LayR.mono {α : Type} [Cel α] {T : TypeId} {W wr u : World} {l : List α} {q : Option Addr} {c : Nat} (h : Hid (LayR T W l q c wr)) (hb : Below wr.heap.size wr u) : Hid (LayR T W l q c u) := ⟨h.out.row.below hb, below_step hb h.out.bw⟩
theorem boxed_far {u u' : World} {q : Option Addr} {g : Nat} {vs : List Value} (h : Boxed u g vs) (hg : u.grownBy u' (q.map (·.block))) (hq : ∀ a, q = some a → g = a.block → False) : Boxed u' g vs := fun j x hj => by
  have h1 := h j x hj
  rw [World.cell?_of_block (w := u) (hg.block _ (World.block_lt_of_cell? u _ h1) (fun e => ?_))]
  · exact h1
  · have hb : ((⟨g, 0, none⟩ : Addr).add j).block = g := by unfold Addr.add; split <;> rfl
    rw [hb] at e
    cases q with
    | none => cases e
    | some a => exact hq a rfl (by simpa using e)

def HolP (t : Int) (kk : Bool) (id : Int) (wq : Option Addr) (wn wc : Nat) (l : List HoldD) (w : World) (e : Ending) (w' : World) : Prop := ∃ q' n' c', e = .returned (.agg #[.int .i64 t, .bool kk, .int .u16 id, .slice q' n' c', .slice wq wn wc]) ∧ OwnS 45 w' w.heap.size (.slice q' n' c') l ∧ Below w.heap.size w w'
set_option maxRecDepth 100000 in
set_option maxHeartbeats 4000000 in
theorem rholds_any (t : Int) (kk : Bool) (id : Int) (hq : Option Addr) (hn hc : Nat) (wq : Option Addr) (wn wc : Nat) (hs : List HoldD) (x m : Int) (w : World) (h : SlOn w hq hn hc hs) (hso : SortH hs) (hsm : hn ≤ 100000) :
    Calls Tryz.prog 81 #[.agg #[.int .i64 t, .bool kk, .int .u16 id, .slice hq hn hc, .slice wq wn wc], .int .i64 x, .int .i64 m] w (HolP t kk id wq wn wc (grantH hs ⟨x, m⟩) w) := by
  obtain ⟨W0, hW0⟩ : ∃ W, w.alloc (.cells #[.int .i64 t, .bool kk, .int .u16 id, .slice hq hn hc, .slice wq wn wc] 43) = W := ⟨_, rfl⟩
  have hb0 := Lib.hid (one_box (xs := [.int .i64 t, .bool kk, .int .u16 id, .slice hq hn hc, .slice wq wn wc]) hW0)
  have hr0 : Hid (RowV 43 W0 w.heap.size [.int .i64 t, .bool kk, .int .u16 id, .slice hq hn hc, .slice wq wn wc]) := RowV.made' (cs := [.int .i64 t, .bool kk, .int .u16 id, .slice hq hn hc, .slice wq wn wc]) hW0
  obtain ⟨W, hW⟩ : ∃ W, W0.alloc (.cells #[.int .i64 0, .bool false, .int .u16 0, .slice none 0 0, .slice none 0 0] 43) = W := ⟨_, rfl⟩
  have hb1 := Lib.hid (one_box (xs := [.int .i64 0, .bool false, .int .u16 0, .slice none 0 0, .slice none 0 0]) hW)
  have hz1 : Hid (RowV 43 W W0.heap.size [.int .i64 0, .bool false, .int .u16 0, .slice none 0 0, .slice none 0 0]) := RowV.made' (cs := [.int .i64 0, .bool false, .int .u16 0, .slice none 0 0, .slice none 0 0]) hW
  have hbW := Lib.hid (below_step hb1.out.1 hb0.out.1)
  have hrW := Lib.hid (hr0.out.below hb1.out.1)
  have hGl : Hid (W0.heap.size < W.heap.size ∧ w.heap.size < W0.heap.size) := by have h3 := hb0.out.2.2; have h4 := hb1.out.2.2; exact ⟨by omega, by omega⟩
  have hh := Lib.hid (h.below hbW.out (Nat.le_refl _))
  have hl := Lib.hid h.len
  have hso := Lib.hid hso
  have c1 := hrW.out.boxed.cell 3 rfl
  have hnil : Hid (LayR 45 W ([] : List HoldD) none 0 W) := ⟨OwnS.nil _ _ _, Below.refl _ _⟩
  clear h
  go_enter Tryz.func81, Tryz.ntmps81
  go_wp2
  clear hW0 hW c1
  go_loopw [7, 8, 14] (fun v7 v8 v14 wr => ∃ (i : Nat) (q : Option Addr) (c : Nat), i ≤ hn ∧ v14 = .int .i64 i ∧ v8 = .bool (hFold hs x m i).2 ∧ v7 = .slice q (hFold hs x m i).1.length c ∧ Hid (LayR 45 W (hFold hs x m i).1 q c wr)) (fun v7 v8 v14 _ => hn - (intOf v14).toNat)
  case atStart => exact ⟨0, none, 0, Nat.zero_le _, rfl, rfl, rfl, hnil⟩
  case round =>
    obtain ⟨i, q, c, hi, rfl, rfl, rfl, hr⟩ := hrel
    obtain ⟨wo, rfl⟩ : ∃ u, u = wr := ⟨_, rfl⟩
    obtain ⟨st, hst⟩ : ∃ st, hFold hs x m i = st := ⟨_, rfl⟩
    have hlen : st.1.length ≤ 100001 := by have := hFold_len hs x m i; rw [hst] at this; omega
    rw [hst] at hr ⊢
    obtain ⟨l, laid⟩ := st
    simp only at hlen hr ⊢
    have hst' := Lib.hid hst
    clear hst
    by_cases hlt : i < hn
    · obtain ⟨A, ⟨hx, hm⟩, hqA, hE, hcA⟩ := (hh.out.below hr.out.bw (Nat.le_refl _)).at hlt
      subst hqA
      have hcell : Hid (∀ j' v, ([.int .i64 hx, .int .i64 hm] : List Value)[j']? = some v → wo.cell? ((A.add (i * 2)).add j') = some v) := fun j' v hj => hcA j' v hj
      have se := sizeHold (.int .i64 hx) (.int .i64 hm)
      have i0 : (0 : Int) ≤ i := by omega
      have i1 : (i : Int) < hn := by omega
      obtain ⟨WA, hWA⟩ : ∃ W', wo.alloc (.cells #[.int .i64 hx, .int .i64 hm] 45) = W' := ⟨_, rfl⟩
      have hbA := Lib.hid (one_box (xs := [.int .i64 hx, .int .i64 hm]) hWA)
      have hnx := Lib.hid (hFold_next (x := x) (m := m) hE)
      rw [hst'.out] at hnx
      have hsz : Hid (W.heap.size ≤ WA.heap.size) := by have h1 := hr.out.bw.size; have h2 := hbA.out.1.size; show _ ≤ _; omega
      have z0 := hbA.out.2.1.cell 0 rfl

      clear hcA hE
      cases laid with
      | false =>
        by_cases h1 : hx < x
        · have ge : ¬ hx ≥ x := by omega
          have nx : (hx != x) = true := by simp; omega
          have hsx : hStep x m (l, false) (⟨hx, hm⟩ : HoldD) = (l ++ [⟨hx, hm⟩], false) := by unfold hStep; rw [if_neg (show ¬ hx = x by omega), if_neg (by simp; omega)]
          rw [hsx] at hnx
          clear hsx
          obtain ⟨WL1, hWL1⟩ : ∃ u', WA.alloc (.cells #[.int .i64 hx, .int .i64 hm] 45) = u' := ⟨_, rfl⟩
          have hbL1 := Lib.hid (one_box (xs := [.int .i64 hx, .int .i64 hm]) hWL1)
          have lit1 := Lib.hid (OwnS.single (RowV.made' (cs := Cel.cells (⟨hx, hm⟩ : HoldD)) hWL1)).reads
          have own1 := Lib.hid ((hr.out.row.below hbA.out.1).below hbL1.out.1)
          have hz1' : Hid (W.heap.size ≤ WL1.heap.size) := by have h1 := hsz.out; have h2 := hbL1.out.2.2; show _ ≤ _; omega
          go_wp2_with (first
            | (with_reducible refine wpList_load_at rfl 45 (.tmp 16) rfl Tryz.underlying45 rfl se rfl hcell.out ?_)
            | (with_reducible refine wpList_load_at rfl 45 (.tmp 10) rfl Tryz.underlying45 rfl se rfl hbA.out.2.1.all ?_)
            | (at_builtin
               refine wpList_append_l Tryz.underlying40 infoHold rfl rfl (.tmp 36) (.tmp 38) rfl rfl rfl own1.out lit1.out (by omega) (by omega) hz1'.out ?_
               intro q7 c7 u7 row7 hg7 _
               have hl7 := Lib.hid (LayR.next hr.out (below_step hbL1.out.1 hbA.out.1) row7 hg7)
               clear row7 hg7))
          go_roundw
          case rel => exact ⟨i + 1, q7, c7, by omega, by go_num, by rw [hnx.out], by rw [hnx.out]; first | done | simp, by rw [hnx.out]; exact hl7.out⟩
          case measure => simp [intOf]; omega
        · by_cases h2 : hx = x
          · have ge : hx ≥ x := by omega
            have nx : (hx != x) = false := by simp [h2]
            have hsx : hStep x m (l, false) (⟨hx, hm⟩ : HoldD) = (l ++ [⟨x, m⟩], true) := by unfold hStep; simp [h2]
            rw [hsx] at hnx
            clear hsx
            clear h1 h2
            obtain ⟨WL1, hWL1⟩ : ∃ u', WA.alloc (.cells #[.int .i64 x, .int .i64 m] 45) = u' := ⟨_, rfl⟩
            have hbL1 := Lib.hid (one_box (xs := [.int .i64 x, .int .i64 m]) hWL1)
            have lit1 := Lib.hid (OwnS.single (RowV.made' (cs := Cel.cells (⟨x, m⟩ : HoldD)) hWL1)).reads
            have own1 := Lib.hid ((hr.out.row.below hbA.out.1).below hbL1.out.1)
            have hz1' : Hid (W.heap.size ≤ WL1.heap.size) := by have h1 := hsz.out; have h2 := hbL1.out.2.2; show _ ≤ _; omega
            go_wp2_with (first
              | (with_reducible refine wpList_load_at rfl 45 (.tmp 16) rfl Tryz.underlying45 rfl se rfl hcell.out ?_)
              | (at_builtin
                 refine wpList_append_l Tryz.underlying40 infoHold rfl rfl (.tmp 26) (.tmp 30) rfl rfl rfl own1.out lit1.out (by omega) (by omega) hz1'.out ?_
                 intro q7 c7 u7 row7 hg7 _
                 have hl7 := Lib.hid (LayR.next hr.out (below_step hbL1.out.1 hbA.out.1) row7 hg7)
                 have y0 := (boxed_far (hbA.out.2.1.below hbL1.out.1 (Nat.le_refl _)) hg7 (fun a ha e => by have h1 := (hr.out.row.far a ha).2; omega)).cell 0 rfl
                 clear z0
                 clear row7 hg7))
            go_roundw
            case rel => exact ⟨i + 1, q7, c7, by omega, by go_num, by rw [hnx.out], by rw [hnx.out]; first | done | simp, by rw [hnx.out]; exact hl7.out⟩
            case measure => simp [intOf]; omega
          · have ge : hx ≥ x := by omega
            have nx : (hx != x) = true := by simp; omega
            have hsx : hStep x m (l, false) (⟨hx, hm⟩ : HoldD) = (l ++ [⟨x, m⟩] ++ [⟨hx, hm⟩], true) := by unfold hStep; rw [if_neg h2, if_pos ⟨rfl, show x < hx by omega⟩]
            rw [hsx] at hnx
            clear hsx
            obtain ⟨WL1, hWL1⟩ : ∃ u', WA.alloc (.cells #[.int .i64 x, .int .i64 m] 45) = u' := ⟨_, rfl⟩
            have hbL1 := Lib.hid (one_box (xs := [.int .i64 x, .int .i64 m]) hWL1)
            have lit1 := Lib.hid (OwnS.single (RowV.made' (cs := Cel.cells (⟨x, m⟩ : HoldD)) hWL1)).reads
            have own1 := Lib.hid ((hr.out.row.below hbA.out.1).below hbL1.out.1)
            have hz1' : Hid (W.heap.size ≤ WL1.heap.size) := by have h1 := hsz.out; have h2 := hbL1.out.2.2; show _ ≤ _; omega
            go_wp2_with (first
              | (with_reducible refine wpList_load_at rfl 45 (.tmp 16) rfl Tryz.underlying45 rfl se rfl hcell.out ?_)
              | (at_builtin
                 refine wpList_append_l Tryz.underlying40 infoHold rfl rfl (.tmp 26) (.tmp 30) rfl rfl rfl own1.out lit1.out (by omega) (by omega) hz1'.out ?_
                 intro q7 c7 u7 row7 hg7 hq7
                 have hl7 := Lib.hid (LayR.next hr.out (below_step hbL1.out.1 hbA.out.1) row7 hg7)
                 have hx7 : Hid (Boxed u7 wo.heap.size [.int .i64 hx, .int .i64 hm]) := boxed_far (hbA.out.2.1.below hbL1.out.1 (Nat.le_refl _)) hg7 (fun a ha e => by have h1 := (hr.out.row.far a ha).2; omega)
                 obtain ⟨WL2, hWL2⟩ : ∃ u', u7.alloc (.cells #[.int .i64 hx, .int .i64 hm] 45) = u' := ⟨_, rfl⟩
                 have hbL2 := Lib.hid (one_box (xs := [.int .i64 hx, .int .i64 hm]) hWL2)
                 have lit2 := Lib.hid (OwnS.single (RowV.made' (cs := Cel.cells (⟨hx, hm⟩ : HoldD)) hWL2)).reads
                 have own2 := Lib.hid (hl7.out.row'.below hbL2.out.1)
                 have hz2' : Hid (W.heap.size ≤ WL2.heap.size) := by have h1 := hl7.out.bw.size; have h2 := hbL2.out.2.2; show _ ≤ _; omega
                 have y0 := hx7.out.cell 0 rfl
                 clear row7 hg7 hq7 z0)
              | (with_reducible refine wpList_load_at rfl 45 (.tmp 10) rfl Tryz.underlying45 rfl se rfl hx7.out.all ?_)
              | (at_builtin
                 refine wpList_append_l Tryz.underlying40 infoHold rfl rfl (.tmp 36) (.tmp 38) rfl rfl rfl own2.out lit2.out (by omega) (by omega) hz2'.out ?_
                 intro q8 c8 u8 row8 hg8 hq8
                 have hl8 := Lib.hid (LayR.next hl7.out hbL2.out.1 (by have h1 := row8; rw [show l.length + 1 = (l ++ [(⟨x, m⟩ : HoldD)]).length by simp] at h1; exact h1) hg8)
                 clear row8 hg8 hq8))
            go_roundw
            case rel => exact ⟨i + 1, q8, c8, by omega, by go_num, by rw [hnx.out], by rw [hnx.out]; first | done | simp, by rw [hnx.out]; exact hl8.out⟩
            case measure => simp [intOf]; omega
      | true =>
        by_cases h2 : hx = x
        · have nx : (hx != x) = false := by simp [h2]
          have hsx : hStep x m (l, true) (⟨hx, hm⟩ : HoldD) = (l, true) := by unfold hStep; simp [h2]
          rw [hsx] at hnx
          clear hsx
          clear h2
          go_wp2_with (first
            | (with_reducible refine wpList_load_at rfl 45 (.tmp 16) rfl Tryz.underlying45 rfl se rfl hcell.out ?_))
          go_roundw
          case rel => exact ⟨i + 1, q, c, by omega, by go_num, by rw [hnx.out], by rw [hnx.out]; first | done | simp, by rw [hnx.out]; exact (LayR.mono hr hbA.out.1).out⟩
          case measure => simp [intOf]; omega
        · have nx : (hx != x) = true := by simpa using h2
          have hsx : hStep x m (l, true) (⟨hx, hm⟩ : HoldD) = (l ++ [⟨hx, hm⟩], true) := by unfold hStep; rw [if_neg h2, if_neg (by simp)]
          rw [hsx] at hnx
          clear hsx
          obtain ⟨WL1, hWL1⟩ : ∃ u', WA.alloc (.cells #[.int .i64 hx, .int .i64 hm] 45) = u' := ⟨_, rfl⟩
          have hbL1 := Lib.hid (one_box (xs := [.int .i64 hx, .int .i64 hm]) hWL1)
          have lit1 := Lib.hid (OwnS.single (RowV.made' (cs := Cel.cells (⟨hx, hm⟩ : HoldD)) hWL1)).reads
          have own1 := Lib.hid ((hr.out.row.below hbA.out.1).below hbL1.out.1)
          have hz1' : Hid (W.heap.size ≤ WL1.heap.size) := by have h1 := hsz.out; have h2 := hbL1.out.2.2; show _ ≤ _; omega
          go_wp2_with (first
            | (with_reducible refine wpList_load_at rfl 45 (.tmp 16) rfl Tryz.underlying45 rfl se rfl hcell.out ?_)
            | (with_reducible refine wpList_load_at rfl 45 (.tmp 10) rfl Tryz.underlying45 rfl se rfl hbA.out.2.1.all ?_)
            | (at_builtin
               refine wpList_append_l Tryz.underlying40 infoHold rfl rfl (.tmp 36) (.tmp 38) rfl rfl rfl own1.out lit1.out (by omega) (by omega) hz1'.out ?_
               intro q7 c7 u7 row7 hg7 _
               have hl7 := Lib.hid (LayR.next hr.out (below_step hbL1.out.1 hbA.out.1) row7 hg7)
               clear row7 hg7))
          go_roundw
          case rel => exact ⟨i + 1, q7, c7, by omega, by go_num, by rw [hnx.out], by rw [hnx.out]; first | done | simp, by rw [hnx.out]; exact hl7.out⟩
          case measure => simp [intOf]; omega
    · obtain rfl : hn = i := by omega
      have hdone := Lib.hid (hFold_done (x := x) (m := m) hso.out hl.out)
      rw [hst'.out] at hdone
      cases laid with
      | true =>
        have hrU := Lib.hid (hrW.out.below hr.out.bw)
        have hzU := Lib.hid (hz1.out.below hr.out.bw)
        obtain ⟨u5, h5⟩ : ∃ x, wo.setCell ⟨w.heap.size, 3, none⟩ (.slice q l.length c) = x := ⟨_, rfl⟩
        have hr5 : Hid (RowV 43 u5 w.heap.size [.int .i64 t, .bool kk, .int .u16 id, .slice q l.length c, .slice wq wn wc]) := by have h1 := hrU.out.set 3 (.slice q l.length c); rw [h5] at h1; exact h1
        have hf5 : Hid (Fr (fun j => j = w.heap.size) wo u5) := by have h1 : Fr (fun j => j = w.heap.size) wo (wo.setCell ⟨w.heap.size, 3, none⟩ (.slice q l.length c)) := Fr.of_set _ _ _ rfl; rw [h5] at h1; exact h1
        have hz5 := Lib.hid (hzU.out.block (hf5.out.block _ hzU.out.lt (fun e => by have h1 := hGl.out.2; have e2 : W0.heap.size = w.heap.size := e; omega)))
        have c5 : wo.cell? ⟨w.heap.size, 3, none⟩ = some (.slice hq hn hc) := hrU.out.cell 3
        have f5 : wo.frozen? ⟨w.heap.size, 3, none⟩ = false := hrU.out.free 3
        have s6 := sizeQue (.int .i64 t) (.bool kk) (.int .u16 id) (.slice q l.length c) (.slice wq wn wc)
        have hone : ∀ y ∈ ([.int .i64 t, .bool kk, .int .u16 id, .slice q l.length c, .slice wq wn wc] : List Value), y.oneCell' = true := fun y hy => by simp only [List.mem_cons, List.not_mem_nil, or_false] at hy; rcases hy with rfl | rfl | rfl | rfl | rfl <;> rfl
        go_wp2_with (first
          | (with_reducible refine wpList_load_at rfl 43 (.tmp 3) rfl Tryz.underlying43 rfl s6 rfl hr5.out.boxed.all ?_)
          | ((with_reducible refine wpList_store_at rfl 43 (.tmp 6) (.tmp 51) rfl (o := 0) (vs := [.int .i64 t, .bool kk, .int .u16 id, .slice q l.length c, .slice wq wn wc]) rfl rfl hz5.out s6 (Nat.le_refl _) hone ?_)
             intro w9 h9 hg9
             have q9 : Hid (RowV 43 w9 W0.heap.size [.int .i64 t, .bool kk, .int .u16 id, .slice q l.length c, .slice wq wn wc]) := h9
             have hg9' := Lib.hid hg9
             clear h9 hg9))
        have m0 := q9.out.cell 0
        have m1 := q9.out.cell 1
        have m2 := q9.out.cell 2
        have m3 := q9.out.cell 3
        have m4 := q9.out.cell 4
        simp only [List.getElem?_cons_zero, List.getElem?_cons_succ] at m0 m1 m2 m3 m4
        refine bodyPost_ret (v := .agg #[.int .i64 t, .bool kk, .int .u16 id, .slice q l.length c, .slice wq wn wc]) (by simp [results, Tryz.results81, go_sem, m0, m1, m2, m3, m4]) rfl ⟨q, l.length, c, rfl, ?_, ?_⟩
        · have h1 := OwnS.mono hr.out.row (Nat.le_of_lt (Nat.lt_trans hGl.out.2 hGl.out.1))
          rw [← hdone.out]
          refine OwnS.fr (S := fun j => j = w.heap.size ∨ j = W0.heap.size) h1 ((hf5.out.mono (fun k _ e => .inl e)).trans (Fr.of_grown hg9'.out (fun k e => by cases e; exact .inr rfl))) (fun a ha e => ?_)
          have h2 := (OwnS.far hr.out.row a ha).1
          have h3 := hGl.out
          omega
        · exact low_step ((hbW.out.trans (hr.out.bw.mono (by have h3 := hGl.out; omega))).trans (hf5.out.below (by have h1 := hr.out.bw.size; have h3 := hGl.out; omega) (fun k e => by have e2 : k = w.heap.size := e; omega))) hg9'.out (Nat.le_of_lt hGl.out.2)
      | false =>
        obtain ⟨WL1, hWL1⟩ : ∃ u', wo.alloc (.cells #[.int .i64 x, .int .i64 m] 45) = u' := ⟨_, rfl⟩
        have hbL1 := Lib.hid (one_box (xs := [.int .i64 x, .int .i64 m]) hWL1)
        have lit1 := Lib.hid (OwnS.single (RowV.made' (cs := Cel.cells (⟨x, m⟩ : HoldD)) hWL1)).reads
        have own1 := Lib.hid (hr.out.row.below hbL1.out.1)
        have hz1' : Hid (W.heap.size ≤ WL1.heap.size) := by have h1 := hr.out.bw.size; have h2 := hbL1.out.2.2; show _ ≤ _; omega
        go_wp2_with (first
          | (at_builtin
             refine wpList_append_l Tryz.underlying40 infoHold rfl rfl (.tmp 43) (.tmp 47) rfl rfl rfl own1.out lit1.out (by omega) (by omega) hz1'.out ?_
             intro q7 c7 u7 row7 hg7 _
             have hl7 := Lib.hid (LayR.next hr.out hbL1.out.1 row7 hg7)
             clear row7 hg7
             have hrU := Lib.hid (hrW.out.below hl7.out.bw)
             have hzU := Lib.hid (hz1.out.below hl7.out.bw)
             obtain ⟨u5, h5⟩ : ∃ x, u7.setCell ⟨w.heap.size, 3, none⟩ (.slice q7 (l.length + 1) c7) = x := ⟨_, rfl⟩
             have hr5 : Hid (RowV 43 u5 w.heap.size [.int .i64 t, .bool kk, .int .u16 id, .slice q7 (l.length + 1) c7, .slice wq wn wc]) := by have h1 := hrU.out.set 3 (.slice q7 (l.length + 1) c7); rw [h5] at h1; exact h1
             have hf5 : Hid (Fr (fun j => j = w.heap.size) u7 u5) := by have h1 : Fr (fun j => j = w.heap.size) u7 (u7.setCell ⟨w.heap.size, 3, none⟩ (.slice q7 (l.length + 1) c7)) := Fr.of_set _ _ _ rfl; rw [h5] at h1; exact h1
             have hz5 := Lib.hid (hzU.out.block (hf5.out.block _ hzU.out.lt (fun e => by have h1 := hGl.out.2; have e2 : W0.heap.size = w.heap.size := e; omega)))
             have c5 : u7.cell? ⟨w.heap.size, 3, none⟩ = some (.slice hq hn hc) := hrU.out.cell 3
             have f5 : u7.frozen? ⟨w.heap.size, 3, none⟩ = false := hrU.out.free 3
             have s6 := sizeQue (.int .i64 t) (.bool kk) (.int .u16 id) (.slice q7 (l.length + 1) c7) (.slice wq wn wc)
             have hone : ∀ y ∈ ([.int .i64 t, .bool kk, .int .u16 id, .slice q7 (l.length + 1) c7, .slice wq wn wc] : List Value), y.oneCell' = true := fun y hy => by simp only [List.mem_cons, List.not_mem_nil, or_false] at hy; rcases hy with rfl | rfl | rfl | rfl | rfl <;> rfl)
          | (with_reducible refine wpList_load_at rfl 43 (.tmp 3) rfl Tryz.underlying43 rfl s6 rfl hr5.out.boxed.all ?_)
          | ((with_reducible refine wpList_store_at rfl 43 (.tmp 6) (.tmp 51) rfl (o := 0) (vs := [.int .i64 t, .bool kk, .int .u16 id, .slice q7 (l.length + 1) c7, .slice wq wn wc]) rfl rfl hz5.out s6 (Nat.le_refl _) hone ?_)
             intro w9 h9 hg9
             have q9 : Hid (RowV 43 w9 W0.heap.size [.int .i64 t, .bool kk, .int .u16 id, .slice q7 (l.length + 1) c7, .slice wq wn wc]) := h9
             have hg9' := Lib.hid hg9
             clear h9 hg9))
        have m0 := q9.out.cell 0
        have m1 := q9.out.cell 1
        have m2 := q9.out.cell 2
        have m3 := q9.out.cell 3
        have m4 := q9.out.cell 4
        simp only [List.getElem?_cons_zero, List.getElem?_cons_succ] at m0 m1 m2 m3 m4
        refine bodyPost_ret (v := .agg #[.int .i64 t, .bool kk, .int .u16 id, .slice q7 (l.length + 1) c7, .slice wq wn wc]) (by simp [results, Tryz.results81, go_sem, m0, m1, m2, m3, m4]) rfl ⟨q7, (l.length + 1), c7, rfl, ?_, ?_⟩
        · have h1 := OwnS.mono hl7.out.row' (Nat.le_of_lt (Nat.lt_trans hGl.out.2 hGl.out.1))
          rw [← hdone.out]
          refine OwnS.fr (S := fun j => j = w.heap.size ∨ j = W0.heap.size) h1 ((hf5.out.mono (fun k _ e => .inl e)).trans (Fr.of_grown hg9'.out (fun k e => by cases e; exact .inr rfl))) (fun a ha e => ?_)
          have h2 := (OwnS.far hl7.out.row' a ha).1
          have h3 := hGl.out
          omega
        · exact low_step ((hbW.out.trans (hl7.out.bw.mono (by have h3 := hGl.out; omega))).trans (hf5.out.below (by have h1 := hl7.out.bw.size; have h3 := hGl.out; omega) (fun k e => by have e2 : k = w.heap.size := e; omega))) hg9'.out (Nat.le_of_lt hGl.out.2)

def WaiP (t : Int) (kk : Bool) (id : Int) (hq : Option Addr) (hn hc : Nat) (l : List WaitD) (w : World) (e : Ending) (w' : World) : Prop := ∃ q' n' c', e = .returned (.agg #[.int .i64 t, .bool kk, .int .u16 id, .slice hq hn hc, .slice q' n' c']) ∧ OwnS 47 w' w.heap.size (.slice q' n' c') l ∧ Below w.heap.size w w'
set_option maxRecDepth 100000 in
set_option maxHeartbeats 4000000 in
theorem rwaits_any (t : Int) (kk : Bool) (id : Int) (hq : Option Addr) (hn hc : Nat) (wq : Option Addr) (wn wc : Nat) (ws : List WaitD) (ax am ah : Int) (w : World) (h : SlOn w wq wn wc ws) (hsm : wn ≤ 100000) :
    Calls Tryz.prog 82 #[.agg #[.int .i64 t, .bool kk, .int .u16 id, .slice hq hn hc, .slice wq wn wc], .agg #[.int .i64 ax, .int .i64 am, .int .i64 ah]] w (WaiP t kk id hq hn hc (ws.take (lineP ws ⟨ax, am, ah⟩) ++ ⟨ax, am, ah⟩ :: ws.drop (lineP ws ⟨ax, am, ah⟩)) w) := by
  obtain ⟨W0, hW0⟩ : ∃ W, w.alloc (.cells #[.int .i64 t, .bool kk, .int .u16 id, .slice hq hn hc, .slice wq wn wc] 43) = W := ⟨_, rfl⟩
  have hb0 := Lib.hid (one_box (xs := [.int .i64 t, .bool kk, .int .u16 id, .slice hq hn hc, .slice wq wn wc]) hW0)
  have hr0 : Hid (RowV 43 W0 w.heap.size [.int .i64 t, .bool kk, .int .u16 id, .slice hq hn hc, .slice wq wn wc]) := RowV.made' (cs := [.int .i64 t, .bool kk, .int .u16 id, .slice hq hn hc, .slice wq wn wc]) hW0
  obtain ⟨W1, hW1⟩ : ∃ W, W0.alloc (.cells #[.int .i64 ax, .int .i64 am, .int .i64 ah] 47) = W := ⟨_, rfl⟩
  have hb1 := Lib.hid (one_box (xs := [.int .i64 ax, .int .i64 am, .int .i64 ah]) hW1)
  obtain ⟨W, hW⟩ : ∃ W, W1.alloc (.cells #[.int .i64 0, .bool false, .int .u16 0, .slice none 0 0, .slice none 0 0] 43) = W := ⟨_, rfl⟩
  have hb2 := Lib.hid (one_box (xs := [.int .i64 0, .bool false, .int .u16 0, .slice none 0 0, .slice none 0 0]) hW)
  have hz1 : Hid (RowV 43 W W1.heap.size [.int .i64 0, .bool false, .int .u16 0, .slice none 0 0, .slice none 0 0]) := RowV.made' (cs := [.int .i64 0, .bool false, .int .u16 0, .slice none 0 0, .slice none 0 0]) hW
  have hbW := Lib.hid (below_step (below_step hb2.out.1 hb1.out.1) hb0.out.1)
  have hrW := Lib.hid (hr0.out.below (below_step hb2.out.1 hb1.out.1))
  have hwb := Lib.hid (hb1.out.2.1.below hb2.out.1 (Nat.le_refl _))
  have sa := sizeWait (.int .i64 ax) (.int .i64 am) (.int .i64 ah)
  have hGl : Hid (W1.heap.size < W.heap.size ∧ w.heap.size < W1.heap.size) := by have h3 := hb0.out.2.2; have h4 := hb1.out.2.2; have h5 := hb2.out.2.2; exact ⟨by omega, by omega⟩
  have hh := Lib.hid (h.below hbW.out (Nat.le_refl _))
  have hl := Lib.hid h.len

  have c1 := hrW.out.boxed.cell 4 rfl
  have hnil : Hid (LayR 47 W ([] : List WaitD) none 0 W) := ⟨OwnS.nil _ _ _, Below.refl _ _⟩
  clear h
  go_enter Tryz.func82, Tryz.ntmps82
  go_wp2
  clear hW0 hW1 hW c1
  go_loopw [5, 6, 12] (fun v5 v6 v12 wr => ∃ (i : Nat) (q : Option Addr) (c : Nat), i ≤ wn ∧ v12 = .int .i64 i ∧ v6 = .bool (wFold ws ⟨ax, am, ah⟩ i).2 ∧ v5 = .slice q (wFold ws ⟨ax, am, ah⟩ i).1.length c ∧ Hid (LayR 47 W (wFold ws ⟨ax, am, ah⟩ i).1 q c wr)) (fun v5 v6 v12 _ => wn - (intOf v12).toNat)
  case atStart => exact ⟨0, none, 0, Nat.zero_le _, rfl, rfl, rfl, hnil⟩
  case round =>
    obtain ⟨i, q, c, hi, rfl, rfl, rfl, hr⟩ := hrel
    obtain ⟨wo, rfl⟩ : ∃ u, u = wr := ⟨_, rfl⟩
    obtain ⟨st, hst⟩ : ∃ st, wFold ws ⟨ax, am, ah⟩ i = st := ⟨_, rfl⟩
    have hlen : st.1.length ≤ 100001 := by have := wFold_len ws ⟨ax, am, ah⟩ i; rw [hst] at this; omega
    rw [hst] at hr ⊢
    obtain ⟨l, laid⟩ := st
    simp only at hlen hr ⊢
    have hst' := Lib.hid hst
    clear hst
    by_cases hlt : i < wn
    · obtain ⟨A, ⟨yx, ym, yh⟩, hqA, hE, hcA⟩ := (hh.out.below hr.out.bw (Nat.le_refl _)).at hlt
      subst hqA
      have hcell : Hid (∀ j' v, ([.int .i64 yx, .int .i64 ym, .int .i64 yh] : List Value)[j']? = some v → wo.cell? ((A.add (i * 3)).add j') = some v) := fun j' v hj => hcA j' v hj
      have se := sizeWait (.int .i64 yx) (.int .i64 ym) (.int .i64 yh)
      have i0 : (0 : Int) ≤ i := by omega
      have i1 : (i : Int) < wn := by omega
      obtain ⟨WA, hWA⟩ : ∃ W', wo.alloc (.cells #[.int .i64 yx, .int .i64 ym, .int .i64 yh] 47) = W' := ⟨_, rfl⟩
      have hbA := Lib.hid (one_box (xs := [.int .i64 yx, .int .i64 ym, .int .i64 yh]) hWA)
      have hnx := Lib.hid (wFold_next (a := ⟨ax, am, ah⟩) hE)
      rw [hst'.out] at hnx
      have hsz : Hid (W.heap.size ≤ WA.heap.size) := by have h1 := hr.out.bw.size; have h2 := hbA.out.1.size; show _ ≤ _; omega
      have z0 := hbA.out.2.1.cell 0 rfl
      have z2 := hbA.out.2.1.cell 2 rfl
      have g2 := (hwb.out.below (below_step hbA.out.1 hr.out.bw) (Nat.le_refl _)).cell 2 rfl
      clear hcA hE
      cases laid with
      | false =>
        by_cases h1 : ah = 0
        · have na : (ah != 0) = false := by simp [h1]
          have hsx : wStep ⟨ax, am, ah⟩ (l, false) (⟨yx, ym, yh⟩ : WaitD) = (l ++ [⟨yx, ym, yh⟩], false) := by unfold wStep; rw [if_neg (by simp [h1])]
          rw [hsx] at hnx
          clear hsx
          clear h1
          obtain ⟨WL1, hWL1⟩ : ∃ u', WA.alloc (.cells #[.int .i64 yx, .int .i64 ym, .int .i64 yh] 47) = u' := ⟨_, rfl⟩
          have hbL1 := Lib.hid (one_box (xs := [.int .i64 yx, .int .i64 ym, .int .i64 yh]) hWL1)
          have lit1 := Lib.hid (OwnS.single (RowV.made' (cs := Cel.cells (⟨yx, ym, yh⟩ : WaitD)) hWL1)).reads
          have own1 := Lib.hid ((hr.out.row.below hbA.out.1).below hbL1.out.1)
          have hz1' : Hid (W.heap.size ≤ WL1.heap.size) := by have h1 := hsz.out; have h2 := hbL1.out.2.2; show _ ≤ _; omega
          go_wp2_with (first
            | (with_reducible refine wpList_load_at rfl 47 (.tmp 14) rfl Tryz.underlying47 rfl se rfl hcell.out ?_)
            | (with_reducible refine wpList_load_at rfl 47 (.tmp 8) rfl Tryz.underlying47 rfl se rfl hbA.out.2.1.all ?_)
            | (at_builtin
               refine wpList_append_l Tryz.underlying41 infoWait rfl rfl (.tmp 32) (.tmp 34) rfl rfl rfl own1.out lit1.out (by omega) (by omega) hz1'.out ?_
               intro q7 c7 u7 row7 hg7 _
               have hl7 := Lib.hid (LayR.next hr.out (below_step hbL1.out.1 hbA.out.1) row7 hg7)
               clear row7 hg7))
          go_roundw
          case rel => exact ⟨i + 1, q7, c7, by omega, by go_num, by rw [hnx.out], by rw [hnx.out]; first | done | simp, by rw [hnx.out]; exact hl7.out⟩
          case measure => simp [intOf]; omega
        · by_cases h2 : yh = 0
          · have na : (ah != 0) = true := by simpa using h1
            have ny : (yh == 0) = true := by simp [h2]
            have hsx : wStep ⟨ax, am, ah⟩ (l, false) (⟨yx, ym, yh⟩ : WaitD) = (l ++ [⟨ax, am, ah⟩] ++ [⟨yx, ym, yh⟩], true) := by unfold wStep; rw [if_pos ⟨rfl, h1, h2⟩]
            rw [hsx] at hnx
            clear hsx
            clear h1 h2
            obtain ⟨WL1, hWL1⟩ : ∃ u', WA.alloc (.cells #[.int .i64 ax, .int .i64 am, .int .i64 ah] 47) = u' := ⟨_, rfl⟩
            have hbL1 := Lib.hid (one_box (xs := [.int .i64 ax, .int .i64 am, .int .i64 ah]) hWL1)
            have lit1 := Lib.hid (OwnS.single (RowV.made' (cs := Cel.cells (⟨ax, am, ah⟩ : WaitD)) hWL1)).reads
            have own1 := Lib.hid ((hr.out.row.below hbA.out.1).below hbL1.out.1)
            have hz1' : Hid (W.heap.size ≤ WL1.heap.size) := by have h1 := hsz.out; have h2 := hbL1.out.2.2; show _ ≤ _; omega
            go_wp2_with (first
              | (with_reducible refine wpList_load_at rfl 47 (.tmp 14) rfl Tryz.underlying47 rfl se rfl hcell.out ?_)
              | (with_reducible refine wpList_load_at rfl 47 (.tmp 3) rfl Tryz.underlying47 rfl sa rfl (hwb.out.below (below_step hbA.out.1 hr.out.bw) (Nat.le_refl _)).all ?_)
              | (at_builtin
                 refine wpList_append_l Tryz.underlying41 infoWait rfl rfl (.tmp 28) (.tmp 30) rfl rfl rfl own1.out lit1.out (by omega) (by omega) hz1'.out ?_
                 intro q7 c7 u7 row7 hg7 hq7
                 have hl7 := Lib.hid (LayR.next hr.out (below_step hbL1.out.1 hbA.out.1) row7 hg7)
                 have hx7 : Hid (Boxed u7 wo.heap.size [.int .i64 yx, .int .i64 ym, .int .i64 yh]) := boxed_far (hbA.out.2.1.below hbL1.out.1 (Nat.le_refl _)) hg7 (fun a ha e => by have h1 := (hr.out.row.far a ha).2; omega)
                 obtain ⟨WL2, hWL2⟩ : ∃ u', u7.alloc (.cells #[.int .i64 yx, .int .i64 ym, .int .i64 yh] 47) = u' := ⟨_, rfl⟩
                 have hbL2 := Lib.hid (one_box (xs := [.int .i64 yx, .int .i64 ym, .int .i64 yh]) hWL2)
                 have lit2 := Lib.hid (OwnS.single (RowV.made' (cs := Cel.cells (⟨yx, ym, yh⟩ : WaitD)) hWL2)).reads
                 have own2 := Lib.hid (hl7.out.row'.below hbL2.out.1)
                 have hz2' : Hid (W.heap.size ≤ WL2.heap.size) := by have h1 := hl7.out.bw.size; have h2 := hbL2.out.2.2; show _ ≤ _; omega
                 have y0 := hx7.out.cell 0 rfl
                 clear row7 hg7 hq7 z0 z2 g2)
              | (with_reducible refine wpList_load_at rfl 47 (.tmp 8) rfl Tryz.underlying47 rfl se rfl hx7.out.all ?_)
              | (at_builtin
                 refine wpList_append_l Tryz.underlying41 infoWait rfl rfl (.tmp 32) (.tmp 34) rfl rfl rfl own2.out lit2.out (by omega) (by omega) hz2'.out ?_
                 intro q8 c8 u8 row8 hg8 hq8
                 have hl8 := Lib.hid (LayR.next hl7.out hbL2.out.1 (by have h1 := row8; rw [show l.length + 1 = (l ++ [(⟨ax, am, ah⟩ : WaitD)]).length by simp] at h1; exact h1) hg8)
                 clear row8 hg8 hq8))
            go_roundw
            case rel => exact ⟨i + 1, q8, c8, by omega, by go_num, by rw [hnx.out], by rw [hnx.out]; first | done | simp, by rw [hnx.out]; exact hl8.out⟩
            case measure => simp [intOf]; omega
          · have na : (ah != 0) = true := by simpa using h1
            have ny : (yh == 0) = false := by simpa using h2
            have hsx : wStep ⟨ax, am, ah⟩ (l, false) (⟨yx, ym, yh⟩ : WaitD) = (l ++ [⟨yx, ym, yh⟩], false) := by unfold wStep; rw [if_neg (by simp [h2])]
            rw [hsx] at hnx
            clear hsx
            clear h1 h2
            obtain ⟨WL1, hWL1⟩ : ∃ u', WA.alloc (.cells #[.int .i64 yx, .int .i64 ym, .int .i64 yh] 47) = u' := ⟨_, rfl⟩
            have hbL1 := Lib.hid (one_box (xs := [.int .i64 yx, .int .i64 ym, .int .i64 yh]) hWL1)
            have lit1 := Lib.hid (OwnS.single (RowV.made' (cs := Cel.cells (⟨yx, ym, yh⟩ : WaitD)) hWL1)).reads
            have own1 := Lib.hid ((hr.out.row.below hbA.out.1).below hbL1.out.1)
            have hz1' : Hid (W.heap.size ≤ WL1.heap.size) := by have h1 := hsz.out; have h2 := hbL1.out.2.2; show _ ≤ _; omega
            go_wp2_with (first
              | (with_reducible refine wpList_load_at rfl 47 (.tmp 14) rfl Tryz.underlying47 rfl se rfl hcell.out ?_)
              | (with_reducible refine wpList_load_at rfl 47 (.tmp 8) rfl Tryz.underlying47 rfl se rfl hbA.out.2.1.all ?_)
              | (at_builtin
                 refine wpList_append_l Tryz.underlying41 infoWait rfl rfl (.tmp 32) (.tmp 34) rfl rfl rfl own1.out lit1.out (by omega) (by omega) hz1'.out ?_
                 intro q7 c7 u7 row7 hg7 _
                 have hl7 := Lib.hid (LayR.next hr.out (below_step hbL1.out.1 hbA.out.1) row7 hg7)
                 clear row7 hg7))
            go_roundw
            case rel => exact ⟨i + 1, q7, c7, by omega, by go_num, by rw [hnx.out], by rw [hnx.out]; first | done | simp, by rw [hnx.out]; exact hl7.out⟩
            case measure => simp [intOf]; omega
      | true =>
        have hsx : wStep ⟨ax, am, ah⟩ (l, true) (⟨yx, ym, yh⟩ : WaitD) = (l ++ [⟨yx, ym, yh⟩], true) := by unfold wStep; rw [if_neg (by simp)]
        rw [hsx] at hnx
        clear hsx
        obtain ⟨WL1, hWL1⟩ : ∃ u', WA.alloc (.cells #[.int .i64 yx, .int .i64 ym, .int .i64 yh] 47) = u' := ⟨_, rfl⟩
        have hbL1 := Lib.hid (one_box (xs := [.int .i64 yx, .int .i64 ym, .int .i64 yh]) hWL1)
        have lit1 := Lib.hid (OwnS.single (RowV.made' (cs := Cel.cells (⟨yx, ym, yh⟩ : WaitD)) hWL1)).reads
        have own1 := Lib.hid ((hr.out.row.below hbA.out.1).below hbL1.out.1)
        have hz1' : Hid (W.heap.size ≤ WL1.heap.size) := by have h1 := hsz.out; have h2 := hbL1.out.2.2; show _ ≤ _; omega
        go_wp2_with (first
          | (with_reducible refine wpList_load_at rfl 47 (.tmp 14) rfl Tryz.underlying47 rfl se rfl hcell.out ?_)
          | (with_reducible refine wpList_load_at rfl 47 (.tmp 8) rfl Tryz.underlying47 rfl se rfl hbA.out.2.1.all ?_)
          | (at_builtin
             refine wpList_append_l Tryz.underlying41 infoWait rfl rfl (.tmp 32) (.tmp 34) rfl rfl rfl own1.out lit1.out (by omega) (by omega) hz1'.out ?_
             intro q7 c7 u7 row7 hg7 _
             have hl7 := Lib.hid (LayR.next hr.out (below_step hbL1.out.1 hbA.out.1) row7 hg7)
             clear row7 hg7))
        go_roundw
        case rel => exact ⟨i + 1, q7, c7, by omega, by go_num, by rw [hnx.out], by rw [hnx.out]; first | done | simp, by rw [hnx.out]; exact hl7.out⟩
        case measure => simp [intOf]; omega
    · obtain rfl : wn = i := by omega
      have hdone := Lib.hid (wFold_done (a := ⟨ax, am, ah⟩) hl.out)
      rw [hst'.out] at hdone
      cases laid with
      | true =>
        have hrU := Lib.hid (hrW.out.below hr.out.bw)
        have hzU := Lib.hid (hz1.out.below hr.out.bw)
        obtain ⟨u5, h5⟩ : ∃ x, wo.setCell ⟨w.heap.size, 4, none⟩ (.slice q l.length c) = x := ⟨_, rfl⟩
        have hr5 : Hid (RowV 43 u5 w.heap.size [.int .i64 t, .bool kk, .int .u16 id, .slice hq hn hc, .slice q l.length c]) := by have h1 := hrU.out.set 4 (.slice q l.length c); rw [h5] at h1; exact h1
        have hf5 : Hid (Fr (fun j => j = w.heap.size) wo u5) := by have h1 : Fr (fun j => j = w.heap.size) wo (wo.setCell ⟨w.heap.size, 4, none⟩ (.slice q l.length c)) := Fr.of_set _ _ _ rfl; rw [h5] at h1; exact h1
        have hz5 := Lib.hid (hzU.out.block (hf5.out.block _ hzU.out.lt (fun e => by have h1 := hGl.out.2; have e2 : W1.heap.size = w.heap.size := e; omega)))
        have c5 : wo.cell? ⟨w.heap.size, 4, none⟩ = some (.slice wq wn wc) := hrU.out.cell 4
        have f5 : wo.frozen? ⟨w.heap.size, 4, none⟩ = false := hrU.out.free 4
        have s6 := sizeQue (.int .i64 t) (.bool kk) (.int .u16 id) (.slice hq hn hc) (.slice q l.length c)
        have hone : ∀ y ∈ ([.int .i64 t, .bool kk, .int .u16 id, .slice hq hn hc, .slice q l.length c] : List Value), y.oneCell' = true := fun y hy => by simp only [List.mem_cons, List.not_mem_nil, or_false] at hy; rcases hy with rfl | rfl | rfl | rfl | rfl <;> rfl
        go_wp2_with (first
          | (with_reducible refine wpList_load_at rfl 43 (.tmp 2) rfl Tryz.underlying43 rfl s6 rfl hr5.out.boxed.all ?_)
          | ((with_reducible refine wpList_store_at rfl 43 (.tmp 4) (.tmp 45) rfl (o := 0) (vs := [.int .i64 t, .bool kk, .int .u16 id, .slice hq hn hc, .slice q l.length c]) rfl rfl hz5.out s6 (Nat.le_refl _) hone ?_)
             intro w9 h9 hg9
             have q9 : Hid (RowV 43 w9 W1.heap.size [.int .i64 t, .bool kk, .int .u16 id, .slice hq hn hc, .slice q l.length c]) := h9
             have hg9' := Lib.hid hg9
             clear h9 hg9))
        have m0 := q9.out.cell 0
        have m1 := q9.out.cell 1
        have m2 := q9.out.cell 2
        have m3 := q9.out.cell 3
        have m4 := q9.out.cell 4
        simp only [List.getElem?_cons_zero, List.getElem?_cons_succ] at m0 m1 m2 m3 m4
        refine bodyPost_ret (v := .agg #[.int .i64 t, .bool kk, .int .u16 id, .slice hq hn hc, .slice q l.length c]) (by simp [results, Tryz.results82, go_sem, m0, m1, m2, m3, m4]) rfl ⟨q, l.length, c, rfl, ?_, ?_⟩
        · have h1 := OwnS.mono hr.out.row (Nat.le_of_lt (Nat.lt_trans hGl.out.2 hGl.out.1))
          rw [← hdone.out]
          refine OwnS.fr (S := fun j => j = w.heap.size ∨ j = W1.heap.size) h1 ((hf5.out.mono (fun k _ e => .inl e)).trans (Fr.of_grown hg9'.out (fun k e => by cases e; exact .inr rfl))) (fun a ha e => ?_)
          have h2 := (OwnS.far hr.out.row a ha).1
          have h3 := hGl.out
          omega
        · exact low_step ((hbW.out.trans (hr.out.bw.mono (by have h3 := hGl.out; omega))).trans (hf5.out.below (by have h1 := hr.out.bw.size; have h3 := hGl.out; omega) (fun k e => by have e2 : k = w.heap.size := e; omega))) hg9'.out (Nat.le_of_lt hGl.out.2)
      | false =>
        obtain ⟨WL1, hWL1⟩ : ∃ u', wo.alloc (.cells #[.int .i64 ax, .int .i64 am, .int .i64 ah] 47) = u' := ⟨_, rfl⟩
        have hbL1 := Lib.hid (one_box (xs := [.int .i64 ax, .int .i64 am, .int .i64 ah]) hWL1)
        have lit1 := Lib.hid (OwnS.single (RowV.made' (cs := Cel.cells (⟨ax, am, ah⟩ : WaitD)) hWL1)).reads
        have own1 := Lib.hid (hr.out.row.below hbL1.out.1)
        have hz1' : Hid (W.heap.size ≤ WL1.heap.size) := by have h1 := hr.out.bw.size; have h2 := hbL1.out.2.2; show _ ≤ _; omega
        go_wp2_with (first
          | (with_reducible refine wpList_load_at rfl 47 (.tmp 3) rfl Tryz.underlying47 rfl sa rfl (hwb.out.below hr.out.bw (Nat.le_refl _)).all ?_)
          | (at_builtin
             refine wpList_append_l Tryz.underlying41 infoWait rfl rfl (.tmp 39) (.tmp 41) rfl rfl rfl own1.out lit1.out (by omega) (by omega) hz1'.out ?_
             intro q7 c7 u7 row7 hg7 _
             have hl7 := Lib.hid (LayR.next hr.out hbL1.out.1 row7 hg7)
             clear row7 hg7
             have hrU := Lib.hid (hrW.out.below hl7.out.bw)
             have hzU := Lib.hid (hz1.out.below hl7.out.bw)
             obtain ⟨u5, h5⟩ : ∃ x, u7.setCell ⟨w.heap.size, 4, none⟩ (.slice q7 (l.length + 1) c7) = x := ⟨_, rfl⟩
             have hr5 : Hid (RowV 43 u5 w.heap.size [.int .i64 t, .bool kk, .int .u16 id, .slice hq hn hc, .slice q7 (l.length + 1) c7]) := by have h1 := hrU.out.set 4 (.slice q7 (l.length + 1) c7); rw [h5] at h1; exact h1
             have hf5 : Hid (Fr (fun j => j = w.heap.size) u7 u5) := by have h1 : Fr (fun j => j = w.heap.size) u7 (u7.setCell ⟨w.heap.size, 4, none⟩ (.slice q7 (l.length + 1) c7)) := Fr.of_set _ _ _ rfl; rw [h5] at h1; exact h1
             have hz5 := Lib.hid (hzU.out.block (hf5.out.block _ hzU.out.lt (fun e => by have h1 := hGl.out.2; have e2 : W1.heap.size = w.heap.size := e; omega)))
             have c5 : u7.cell? ⟨w.heap.size, 4, none⟩ = some (.slice wq wn wc) := hrU.out.cell 4
             have f5 : u7.frozen? ⟨w.heap.size, 4, none⟩ = false := hrU.out.free 4
             have s6 := sizeQue (.int .i64 t) (.bool kk) (.int .u16 id) (.slice hq hn hc) (.slice q7 (l.length + 1) c7)
             have hone : ∀ y ∈ ([.int .i64 t, .bool kk, .int .u16 id, .slice hq hn hc, .slice q7 (l.length + 1) c7] : List Value), y.oneCell' = true := fun y hy => by simp only [List.mem_cons, List.not_mem_nil, or_false] at hy; rcases hy with rfl | rfl | rfl | rfl | rfl <;> rfl)
          | (with_reducible refine wpList_load_at rfl 43 (.tmp 2) rfl Tryz.underlying43 rfl s6 rfl hr5.out.boxed.all ?_)
          | ((with_reducible refine wpList_store_at rfl 43 (.tmp 4) (.tmp 45) rfl (o := 0) (vs := [.int .i64 t, .bool kk, .int .u16 id, .slice hq hn hc, .slice q7 (l.length + 1) c7]) rfl rfl hz5.out s6 (Nat.le_refl _) hone ?_)
             intro w9 h9 hg9
             have q9 : Hid (RowV 43 w9 W1.heap.size [.int .i64 t, .bool kk, .int .u16 id, .slice hq hn hc, .slice q7 (l.length + 1) c7]) := h9
             have hg9' := Lib.hid hg9
             clear h9 hg9))
        have m0 := q9.out.cell 0
        have m1 := q9.out.cell 1
        have m2 := q9.out.cell 2
        have m3 := q9.out.cell 3
        have m4 := q9.out.cell 4
        simp only [List.getElem?_cons_zero, List.getElem?_cons_succ] at m0 m1 m2 m3 m4
        refine bodyPost_ret (v := .agg #[.int .i64 t, .bool kk, .int .u16 id, .slice hq hn hc, .slice q7 (l.length + 1) c7]) (by simp [results, Tryz.results82, go_sem, m0, m1, m2, m3, m4]) rfl ⟨q7, (l.length + 1), c7, rfl, ?_, ?_⟩
        · have h1 := OwnS.mono hl7.out.row' (Nat.le_of_lt (Nat.lt_trans hGl.out.2 hGl.out.1))
          rw [← hdone.out]
          refine OwnS.fr (S := fun j => j = w.heap.size ∨ j = W1.heap.size) h1 ((hf5.out.mono (fun k _ e => .inl e)).trans (Fr.of_grown hg9'.out (fun k e => by cases e; exact .inr rfl))) (fun a ha e => ?_)
          have h2 := (OwnS.far hl7.out.row' a ha).1
          have h3 := hGl.out
          omega
        · exact low_step ((hbW.out.trans (hl7.out.bw.mono (by have h3 := hGl.out; omega))).trans (hf5.out.below (by have h1 := hl7.out.bw.size; have h3 := hGl.out; omega) (fun k e => by have e2 : k = w.heap.size := e; omega))) hg9'.out (Nat.le_of_lt hGl.out.2)
end Go.Proofs.YtbgpppbcffpdbaaGreatDoor

/-! Waits of the document on locks: for what one waits. -/
namespace Go.Proofs.YtbgpppbcffpdbaaGreatDoor
open Go.RowKit

def WaitsF (L : List QueD) (x : Int) (r : ResD) (m : Int) (b : Bool) : Prop := (wtOf L x = none ∧ r = ⟨0, false, 0⟩ ∧ m = 0 ∧ b = false) ∨ (∃ d, wtOf L x = some d ∧ r = d.res ∧ m = (wtrOf d x).m ∧ b = true)
theorem wtOf_first : ∀ {L : List QueD} {x : Int} {k : Nat} {d : QueD}, NoW L x k → L[k]? = some d → 0 ≤ waitI d.ws x → wtOf L x = some d
  | [], _, _, _, _, h, _ => by simp at h
  | e :: L, x, 0, d, _, h, h0 => by
    simp at h
    subst h
    unfold wtOf
    rw [if_pos h0]
  | e :: L, x, k + 1, d, hn, h, h0 => by
    have he := hn 0 e (by omega) rfl
    unfold wtOf
    rw [if_neg (by omega)]
    exact wtOf_first (k := k) (fun i d hi hd => hn (i + 1) d (by omega) (by simpa using hd)) (by simpa using h) h0
theorem wtr_first {d : QueD} {x : Int} {p : Nat} {a : WaitD} (ha : d.ws[p]? = some a) (hx : a.x = x) (hb : ∀ j b, j < p → d.ws[j]? = some b → b.x ≠ x) : 0 ≤ waitI d.ws x ∧ wtrOf d x = a := by
  have h0 : 0 ≤ waitI d.ws x := by
    apply Classical.byContradiction
    intro hc
    exact wait_neg.1 (by omega) a (List.mem_of_getElem? ha) hx
  obtain ⟨q, b, h1, h2, h3, h4, h5, h6⟩ := wtr_at h0
  refine ⟨h0, ?_⟩
  have hpq : q = p := by
    rcases Nat.lt_trichotomy q p with h | h | h
    · exact absurd h5 (hb q b h h3)
    · exact h
    · exact absurd hx (h6 p a h ha)
  subst hpq
  rw [ha] at h3
  cases h3
  exact h4
theorem wait_none {ws : List WaitD} {x : Int} {n : Nat} (hl : ws.length = n) (hb : ∀ j b, j < n → ws[j]? = some b → b.x ≠ x) : waitI ws x < 0 := by
  refine wait_neg.2 (fun a ha => ?_)
  obtain ⟨j, hj⟩ := List.mem_iff_getElem?.1 ha
  exact hb j a (by have := (List.getElem?_eq_some_iff.1 hj).1; omega) hj

set_option maxRecDepth 100000 in
set_option maxHeartbeats 4000000 in
theorem rWaits_any (q : Option Addr) (n c : Nat) (V : List QV) (L : List QueD) (x rt : Int) (rk : Bool) (ri m : Int) (b : Bool) (he : WaitsF L x ⟨rt, rk, ri⟩ m b) (w : World) (h : LkOn w q n c V L) :
    Calls Tryz.prog 22 #[.agg #[.slice q n c], .int .i64 x] w (fun e w' => e = .returned (.tuple #[.agg #[.int .i64 rt, .bool rk, .int .u16 ri], .int .i64 m, .bool b]) ∧ Below w.heap.size w w') := by
  obtain ⟨W0, hW0⟩ : ∃ W, w.alloc (.cells #[.slice q n c] 24) = W := ⟨_, rfl⟩
  have hb0 := Lib.hid (one_box (xs := [.slice q n c]) hW0)
  obtain ⟨W, hW⟩ : ∃ W, W0.alloc (.cells #[.int .i64 0, .bool false, .int .u16 0] 30) = W := ⟨_, rfl⟩
  have hb1 := Lib.hid (one_box (xs := [.int .i64 0, .bool false, .int .u16 0]) hW)
  have hr1 : Hid (RowV 30 W W0.heap.size [.int .i64 0, .bool false, .int .u16 0]) := RowV.made' (cs := [.int .i64 0, .bool false, .int .u16 0]) hW
  have hbW := Lib.hid (below_step hb1.out.1 hb0.out.1)
  have hs0 : Hid (W0.heap.size = w.heap.size + 1 ∧ W.heap.size = W0.heap.size + 1) := ⟨hb0.out.2.2, hb1.out.2.2⟩
  have hh := Lib.hid (h.below hbW.out (Nat.le_refl _))
  have hll := Lib.hid h.len
  have he' := Lib.hid he
  have hnb : Hid (n ≤ 9223372036854775807) := by show _ ≤ _; have h1 := h.sl.le; have h2 := h.sl.cap; unfold maxLen at h2; omega
  have hnb' := hnb.out
  have c0 := (hb0.out.2.1.below hb1.out.1 (Nat.le_refl _)).cell 0 rfl
  clear h he
  go_enter Tryz.func22, Tryz.ntmps22
  go_wp2
  clear hW0 hW c0
  go_loopw [14] (fun v14 wr => ∃ k : Nat, k ≤ n ∧ v14 = .int .i64 k ∧ Hid (Below W.heap.size W wr) ∧ Hid (NoW L x k)) (fun v14 _ => n - (intOf v14).toNat)
  case atStart => exact ⟨0, Nat.zero_le _, rfl, Below.refl _ _, Lib.hid (fun i d hi => by omega)⟩
  case round =>
    obtain ⟨k, hk, rfl, hr, hno⟩ := hrel
    obtain ⟨wo, rfl⟩ : ∃ u, u = wr := ⟨_, rfl⟩
    by_cases hlt : k < n
    · obtain ⟨A, ⟨⟨at_, ak, ai⟩, hq, hn, hc, wq, wn, wc⟩, ⟨res, hs, ws⟩, hqA, hV, hd, hond, hcA⟩ := (hh.out.below hr.out (Nat.le_refl _)).at hlt
      have hres : res = ⟨at_, ak, ai⟩ := hond.res.symm
      subst hres
      subst hqA
      have hcell : Hid (∀ j' v, ([.int .i64 at_, .bool ak, .int .u16 ai, .slice hq hn hc, .slice wq wn wc] : List Value)[j']? = some v → wo.cell? ((A.add (k * 5)).add j') = some v) := fun j' v hj => hcA j' v hj
      have sq := sizeQue (.int .i64 at_) (.bool ak) (.int .u16 ai) (.slice hq hn hc) (.slice wq wn wc)
      have i0 : (0 : Int) ≤ k := by omega
      have i1 : (k : Int) < n := by omega
      obtain ⟨WA, hWA⟩ : ∃ W', wo.alloc (.cells #[.int .i64 at_, .bool ak, .int .u16 ai, .slice hq hn hc, .slice wq wn wc] 43) = W' := ⟨_, rfl⟩
      have hbA := Lib.hid (one_box (xs := [.int .i64 at_, .bool ak, .int .u16 ai, .slice hq hn hc, .slice wq wn wc]) hWA)
      have hd' := Lib.hid hd
      have hwo : Hid (SlOn WA wq wn wc ws) := hond.ws.below hbA.out.1 (Nat.le_refl _)
      have hwl : Hid (ws.length = wn) := hond.ws.len
      have hwn : Hid (wn ≤ 9223372036854775807) := by show _ ≤ _; have h1 := hwo.out.le; have h2 := hwo.out.cap; unfold maxLen at h2; omega
      have hwn' := hwn.out
      have hbw := Lib.hid (below_step hbA.out.1 hr.out)
      have cw := hbA.out.2.1.cell 4 rfl
      clear hcA hV hd hond
      go_wp2_with (first
        | (with_reducible refine wpList_load_at rfl 43 (.tmp 16) rfl Tryz.underlying43 rfl sq rfl hcell.out ?_))
      clear hWA hcell cw
      go_loopw [21] (fun v21 wr => ∃ p : Nat, p ≤ wn ∧ v21 = .int .i64 p ∧ Hid (Below WA.heap.size WA wr) ∧ Hid (∀ j a, j < p → ws[j]? = some a → a.x ≠ x)) (fun v21 _ => wn - (intOf v21).toNat)
      case atStart => exact ⟨0, Nat.zero_le _, rfl, Below.refl _ _, Lib.hid (fun j a hj => by omega)⟩
      case round =>
        obtain ⟨p, hp, rfl, hr3, hnd⟩ := hrel
        obtain ⟨wi, rfl⟩ : ∃ u, u = wr := ⟨_, rfl⟩
        by_cases hlp : p < wn
        · obtain ⟨AW, ⟨yx, ym, yh⟩, hqY, hY, hcY⟩ := (hwo.out.below hr3.out (Nat.le_refl _)).at hlp
          subst hqY
          have hcellY : Hid (∀ j' v, ([.int .i64 yx, .int .i64 ym, .int .i64 yh] : List Value)[j']? = some v → wi.cell? ((AW.add (p * 3)).add j') = some v) := fun j' v hj => hcY j' v hj
          have sy := sizeWait (.int .i64 yx) (.int .i64 ym) (.int .i64 yh)
          have hY' := Lib.hid hY
          have p0 : (0 : Int) ≤ p := by omega
          have p1 : (p : Int) < wn := by omega
          obtain ⟨WY, hWY⟩ : ∃ W', wi.alloc (.cells #[.int .i64 yx, .int .i64 ym, .int .i64 yh] 47) = W' := ⟨_, rfl⟩
          have hbY := Lib.hid (one_box (xs := [.int .i64 yx, .int .i64 ym, .int .i64 yh]) hWY)
          have hbAY := Lib.hid (below_step hbY.out.1 hr3.out)
          have z0 := hbY.out.2.1.cell 0 rfl
          clear hY hcY
          by_cases hxe : yx = x
          · have hxb : (yx == x) = true := by simp [hxe]
            have hwt := wtr_first (d := ⟨⟨at_, ak, ai⟩, hs, ws⟩) hY'.out hxe hnd.out
            have hfd := wtOf_first hno.out hd'.out hwt.1
            have hz : ResD.mk rt rk ri = ⟨at_, ak, ai⟩ ∧ m = ym ∧ b = true := by
              rcases he'.out with ⟨h1, _⟩ | ⟨d, h1, h2, h3, h4⟩
              · rw [hfd] at h1; cases h1
              · rw [hfd] at h1; cases h1
                rw [hwt.2] at h3
                exact ⟨h2, h3, h4⟩
            obtain ⟨hz1, rfl, rfl⟩ := hz
            cases hz1
            clear hxe hwt hfd he'
            go_wp2_with (first
              | (with_reducible refine wpList_load_at rfl 47 (.tmp 23) rfl Tryz.underlying47 rfl sy rfl hcellY.out ?_))
            clear hWY hcellY z0
            have hzl : wi.heap.size ≠ W0.heap.size ∧ wo.heap.size ≠ W0.heap.size := by
              have h1 := hs0.out; have h2 := hr.out.size; have h3 := hr3.out.size; have h4 := hbA.out.2.2
              exact ⟨by omega, by omega⟩
            have hS0 : Below WY.heap.size WY WY.drew := below_drew' WY
            have hbx : Boxed WY.drew wo.heap.size [.int .i64 rt, .bool rk, .int .u16 ri, .slice hq hn hc, .slice (some AW) wn wc] ∧ Boxed WY.drew wi.heap.size [.int .i64 x, .int .i64 m, .int .i64 yh] := by
              have hxx : yx = x := by simpa using hxb
              subst hxx
              exact ⟨(hbA.out.2.1.below hbAY.out (Nat.le_refl _)).below hS0 (Nat.le_refl _), hbY.out.2.1.below hS0 (Nat.le_refl _)⟩
            have hone : ∀ y ∈ ([.int .i64 rt, .bool rk, .int .u16 ri] : List Value), y.oneCell' = true := fun y hy => by simp only [List.mem_cons, List.not_mem_nil, or_false] at hy; rcases hy with rfl | rfl | rfl <;> rfl
            have hrY := hr1.out.below (below_step (below_step hS0 hbAY.out) hbw.out)
            obtain ⟨X, hst, hX, hgX⟩ := run_storeVar_at (P := Tryz.prog) (ty := 30) (o := 0) (vs := [.int .i64 rt, .bool rk, .int .u16 ri]) hrY (sizeRes (.int .i64 rt) (.bool rk) (.int .u16 ri)) (Nat.le_refl _) hone
            have hSX : Boxed X wo.heap.size [.int .i64 rt, .bool rk, .int .u16 ri, .slice hq hn hc, .slice (some AW) wn wc] ∧ Boxed X wi.heap.size [.int .i64 x, .int .i64 m, .int .i64 yh] := ⟨fun j y hj => cell_ne' hgX (fun e => by
              rw [add_blk] at e
              exact hzl.2 (by simpa using e.symm)) (hbx.1 j y hj), fun j y hj => cell_ne' hgX (fun e => by
              rw [add_blk] at e
              exact hzl.1 (by simpa using e.symm)) (hbx.2 j y hj)⟩
            refine wp_region_held (S := fun u => Boxed u wo.heap.size [.int .i64 rt, .bool rk, .int .u16 ri, .slice hq hn hc, .slice (some AW) wn wc] ∧ Boxed u wi.heap.size [.int .i64 x, .int .i64 m, .int .i64 yh]) (by kernel_rfl) ?_
            change wpAnyH _ _ _ _ _ _ _ _ (World.drew WY)
            refine held_tk (i := 0) (dst := some 29) (v := .pointer (some ⟨wo.heap.size, 0, none⟩)) rfl rfl (.inl ⟨rfl, fun u hu => by go_simp⟩) hbx ?_
            go_frame
            refine held_tk (i := 1) (dst := some 30) (v := .agg #[.int .i64 rt, .bool rk, .int .u16 ri]) rfl rfl (y_load_agg 30 (.tmp 29) rfl rfl rfl (fun u hu => run_loadVar_at Tryz.underlying30 rfl (sizeRes _ _ _) _ (fun j y hj => by rw [addr0]; exact hu.1.cell j (by match j, hj with | 0, h => exact h | 1, h => exact h | 2, h => exact h | j + 3, h => simp at h)))) hbx ?_
            go_frame
            refine held_tk (i := 2) (dst := some 31) (v := .pointer (some ⟨wi.heap.size, 1, none⟩)) rfl rfl (.inl ⟨rfl, fun u hu => by go_simp⟩) hbx ?_
            go_frame
            refine held_tk (i := 3) (dst := some 32) (v := .int .i64 m) rfl rfl (.inl ⟨rfl, fun u hu => by have c4 := hu.2.cell 1 rfl; go_simp⟩) hbx ?_
            go_frame
            refine held_skip (i := 4) (dst := none) rfl rfl (by kernel_rfl) rfl (run_store_op (x := .tmp 4) (y := .tmp 30) rfl rfl rfl hst) hSX ?_
            go_frame
            refine held_tk (i := 5) (dst := some 5) (v := .int .i64 m) rfl rfl (.inl ⟨rfl, fun u hu => by go_simp⟩) hSX ?_
            go_frame
            refine held_tk (i := 6) (dst := some 6) (v := .bool true) rfl rfl (.inl ⟨rfl, fun u hu => by go_simp⟩) hSX ?_
            go_frame
            refine wpAnyH_done (by kernel_rfl) ?_ _
            have q9 : Hid (RowV 30 X W0.heap.size [.int .i64 rt, .bool rk, .int .u16 ri]) := hX
            have hgX' := Lib.hid hgX
            have hfin := Lib.hid (low_step (below_step (below_step hS0 (below_step hbAY.out hbw.out)) hbW.out) hgX (by have := hs0.out; omega))
            clear hst hSX hbx hX hgX
            go_wp2
            have m0 := q9.out.cell 0
            have m1 := q9.out.cell 1
            have m2 := q9.out.cell 2
            simp only [List.getElem?_cons_zero, List.getElem?_cons_succ] at m0 m1 m2
            exact bodyPost_ret (v := .tuple #[.agg #[.int .i64 rt, .bool rk, .int .u16 ri], .int .i64 m, .bool true]) (by simp [results, Tryz.results22, go_sem, m0, m1, m2]) rfl ⟨rfl, hfin.out⟩
          · have hxb : (yx == x) = false := by simpa using hxe
            have hxn := Lib.hid hxe
            clear hxe
            go_wp2_with (first
              | (with_reducible refine wpList_load_at rfl 47 (.tmp 23) rfl Tryz.underlying47 rfl sy rfl hcellY.out ?_))
            go_roundw
            case rel =>
              refine ⟨p + 1, by omega, by go_num, hbAY.out, Lib.hid (fun j a hj ha => ?_)⟩
              rcases Nat.lt_or_ge j p with h1 | h1
              · exact hnd.out j a h1 ha
              · obtain rfl : j = p := by omega
                rw [hY'.out] at ha
                cases ha
                exact hxn.out
            case measure => simp [intOf]; omega
        · obtain rfl : wn = p := by omega
          have hbf := Lib.hid (below_step hr3.out hbw.out)
          have hneg := Lib.hid (wait_none hwl.out hnd.out)
          go_wp2
          go_roundw
          case rel =>
            refine ⟨k + 1, by omega, by go_num, hbf.out, Lib.hid (fun i d hi hdi => ?_)⟩
            rcases Nat.lt_or_ge i k with h1 | h1
            · exact hno.out i d h1 hdi
            · obtain rfl : i = k := by omega
              rw [hd'.out] at hdi
              cases hdi
              exact hneg.out
          case measure => simp [intOf]; omega
    · obtain rfl : n = k := by omega
      have hz : ResD.mk rt rk ri = ⟨0, false, 0⟩ ∧ m = 0 ∧ b = false := by
        have hnone := wtOf_none (by rw [hll.out]; exact hno.out : NoW L x L.length)
        rcases he'.out with ⟨_, h2, h3, h4⟩ | ⟨d, h1, _⟩
        · exact ⟨h2, h3, h4⟩
        · rw [hnone] at h1; cases h1
      obtain ⟨hz1, rfl, rfl⟩ := hz
      cases hz1
      have hrz := Lib.hid (hr1.out.below hr.out)
      have s3 := sizeRes (.int .i64 0) (.bool false) (.int .u16 0)
      have hone : ∀ y ∈ ([.int .i64 0, .bool false, .int .u16 0] : List Value), y.oneCell' = true := fun y hy => by simp only [List.mem_cons, List.not_mem_nil, or_false] at hy; rcases hy with rfl | rfl | rfl <;> rfl
      go_wp2_with (first
        | ((with_reducible refine wpList_store_at rfl 30 (.tmp 4) (.tmp 35) rfl (o := 0) (vs := [.int .i64 0, .bool false, .int .u16 0]) rfl rfl hrz.out s3 (Nat.le_refl _) hone ?_)
           intro w9 h9 hg9
           have q9 : Hid (RowV 30 w9 W0.heap.size [.int .i64 0, .bool false, .int .u16 0]) := h9
           have hfin := Lib.hid (low_step (below_step hr.out hbW.out) hg9 (by have := hs0.out; omega))
           clear h9 hg9))
      have m0 := q9.out.cell 0
      have m1 := q9.out.cell 1
      have m2 := q9.out.cell 2
      simp only [List.getElem?_cons_zero, List.getElem?_cons_succ] at m0 m1 m2
      exact bodyPost_ret (v := .tuple #[.agg #[.int .i64 0, .bool false, .int .u16 0], .int .i64 0, .bool false]) (by simp [results, Tryz.results22, go_sem, m0, m1, m2]) rfl ⟨rfl, hfin.out⟩
end Go.Proofs.YtbgpppbcffpdbaaGreatDoor

/-! Mathematics of the document's Ask: a queue laid among queues, one by one; the sup of what one holds and asks for. -/
namespace Go.Proofs.YtbgpppbcffpdbaaGreatDoor
open Go.RowKit

theorem sup_j (k : Bool) {o m : Int} (ho : o = 0 ∨ modB k o = true) (hm : modB k m = true) : ∃ j : Nat, j < 7 ∧ supM o m = j ∧ lstK o m j 7 = true ∧ ∀ i : Nat, i < j → lstK o m i 7 = false := by
  have h1 : isM o = true := by
    rcases ho with rfl | h
    · decide
    · exact modB_is h
  obtain ⟨x, hx, rfl⟩ := isM_nat h1
  obtain ⟨y, hy, rfl⟩ := isM_nat (modB_is hm)
  have h0 : supE (x : Int) (y : Int) = 0 := by
    have key : ∀ x : Nat, x < 7 → ∀ y : Nat, y < 7 → ((x == 0 || modB k (x : Int)) && modB k (y : Int) && !(supE (x : Int) (y : Int) == 0)) = false := by
      cases k <;> decide +kernel
    have h2 := key x hx y hy
    have h3 : (x == 0 || modB k (x : Int)) = true := by
      rcases ho with h | h
      · have : x = 0 := by omega
        subst this; rfl
      · rw [h, Bool.or_true]
    rw [h3, hm] at h2
    simpa using h2
  have q3 := (by decide +kernel : ∀ x : Nat, x < 7 → ∀ y : Nat, y < 7 → supE x y = 0 → (supM x y).toNat < 7 ∧ supM x y = ((supM x y).toNat : Nat)) x hx y hy
  have q4 := (by decide +kernel : ∀ x : Nat, x < 7 → ∀ y : Nat, y < 7 → supE x y = 0 → lstK x y (supM x y) 7 = true) x hx y hy
  have q5 := (by decide +kernel : ∀ x : Nat, x < 7 → ∀ y : Nat, y < 7 → supE x y = 0 → ∀ i : Nat, i < 7 → i < (supM x y).toNat → lstK x y i 7 = false) x hx y hy
  obtain ⟨a1, a2⟩ := q3 h0
  exact ⟨(supM x y).toNat, a1, a2, by rw [← a2]; exact q4 h0, fun i hi => q5 h0 i (by omega) hi⟩
theorem rsupM_any (k : Bool) (o m : Int) (ho : o = 0 ∨ modB k o = true) (hm : modB k m = true) (s : Int) (hs : supM o m = s) (w : World) : Calls Tryz.prog 79 #[.int .i64 o, .int .i64 m] w (fun e w' => e = .returned (.int .i64 s) ∧ w' = w) := by
  obtain ⟨j, h1, h2, h3, h4⟩ := sup_j k ho hm
  refine (rsup_any o m j h1 w h3 h4).mono fun e w' h => ⟨?_, h.2.symm⟩
  rw [h.1, ← hs, h2]
theorem cmpR_no (r : ResD) : ¬ cmpR r r < 0 := by rw [cmpR_lt]; omega
/-- a queue is laid among queues, one by one -/
def qStep (r : ResD) (p : QV × QueD) (s : List (QV × QueD) × Bool) (d : QV × QueD) : List (QV × QueD) × Bool :=
  if d.2.res = r then (if s.2 = false then (s.1 ++ [p], true) else s)
  else if s.2 = false ∧ ¬ cmpR d.2.res r < 0 then (s.1 ++ [p] ++ [d], true) else (s.1 ++ [d], s.2)
def qFold (Z : List (QV × QueD)) (r : ResD) (p : QV × QueD) (i : Nat) : List (QV × QueD) × Bool := (Z.take i).foldl (qStep r p) ([], false)
theorem qFold_next {Z : List (QV × QueD)} {r : ResD} {p : QV × QueD} {i : Nat} {d : QV × QueD} (h : Z[i]? = some d) : qFold Z r p (i + 1) = qStep r p (qFold Z r p i) d := by
  unfold qFold
  rw [List.take_add_one, h, List.foldl_append]
  rfl
theorem qf_len {r : ResD} {p : QV × QueD} : ∀ (l : List (QV × QueD)) (s : List (QV × QueD) × Bool), (l.foldl (qStep r p) s).1.length + cB (l.foldl (qStep r p) s).2 ≤ s.1.length + cB s.2 + l.length
  | [], s => Nat.le_refl _
  | a :: l, s => by
    rw [List.foldl_cons]
    have h1 := qf_len (r := r) (p := p) l (qStep r p s a)
    have h2 : (qStep r p s a).1.length + cB (qStep r p s a).2 ≤ s.1.length + cB s.2 + 1 := by
      obtain ⟨s1, s2⟩ := s
      unfold qStep
      cases s2 <;> (repeat' split) <;> simp_all [cB] <;> omega
    simp only [List.length_cons]
    omega
theorem qFold_len (Z : List (QV × QueD)) (r : ResD) (p : QV × QueD) (i : Nat) : (qFold Z r p i).1.length ≤ i + 1 := by
  have h := qf_len (r := r) (p := p) (Z.take i) ([], false)
  have h2 : (Z.take i).length ≤ i := List.length_take_le _ _
  unfold qFold
  simp only [cB, List.length_nil, Bool.false_eq_true, if_false] at h
  omega
def qFin (p : QV × QueD) (s : List (QV × QueD) × Bool) : List (QV × QueD) := if s.2 = true then s.1 else s.1 ++ [p]
theorem qf_mem {r : ResD} {p : QV × QueD} : ∀ (l : List (QV × QueD)) (s : List (QV × QueD) × Bool) (a : QV × QueD), a ∈ (l.foldl (qStep r p) s).1 → a ∈ s.1 ∨ a = p ∨ a ∈ l
  | [], s, a, h => .inl h
  | b :: l, s, a, h => by
    rw [List.foldl_cons] at h
    rcases qf_mem l _ a h with h1 | h1 | h1
    · have h2 : a ∈ s.1 ∨ a = p ∨ a = b := by
        obtain ⟨s1, s2⟩ := s
        unfold qStep at h1
        cases s2 <;> (repeat' split at h1) <;> simp_all <;> rcases h1 with h1 | h1 <;> simp_all
      rcases h2 with h2 | h2 | h2
      · exact .inl h2
      · exact .inr (.inl h2)
      · exact .inr (.inr (by rw [h2]; exact List.mem_cons_self))
    · exact .inr (.inl h1)
    · exact .inr (.inr (List.mem_cons_of_mem _ h1))
theorem qFin_mem {Z : List (QV × QueD)} {r : ResD} {p : QV × QueD} {n : Nat} {a : QV × QueD} (h : a ∈ qFin p (qFold Z r p n)) : a = p ∨ a ∈ Z := by
  have key : a ∈ (qFold Z r p n).1 → a = p ∨ a ∈ Z := fun h => by
    rcases qf_mem _ _ a h with h1 | h1 | h1
    · cases h1
    · exact .inl h1
    · exact .inr (List.mem_of_mem_take h1)
  unfold qFin at h
  split at h
  · exact key h
  · rcases List.mem_append.1 h with h | h
    · exact key h
    · exact .inl (List.mem_singleton.1 h)
def cL (r : ResD) (e : QueD) : List QueD → List QueD
  | [] => [e]
  | h :: t => if cmpR h.res r < 0 then h :: cL r e t else if h.res = r then e :: t else e :: h :: t
theorem cL_eq {r : ResD} {e : QueD} : ∀ L : List QueD, (if thereQ L r = true then L.set (posQ L r) e else L.take (posQ L r) ++ e :: L.drop (posQ L r)) = cL r e L
  | [] => by simp [thereQ, posQ, cL]
  | h :: t => by
    have ih := cL_eq (r := r) (e := e) t
    unfold cL
    by_cases h1 : cmpR h.res r < 0
    · have hp : posQ (h :: t) r = posQ t r + 1 := by unfold posQ; rw [List.takeWhile_cons]; simp [h1]
      have hf : thereQ (h :: t) r = thereQ t r := by unfold thereQ; rw [hp]; simp
      rw [if_pos h1, ← ih, hf, hp]
      split <;> simp
    · have hp : posQ (h :: t) r = 0 := by unfold posQ; rw [List.takeWhile_cons]; simp [h1]
      have hf : thereQ (h :: t) r = decide (h.res = r) := by unfold thereQ; rw [hp]; simp
      rw [if_neg h1, hf, hp]
      by_cases h2 : h.res = r <;> simp [h2]
theorem qf_true {r : ResD} {p : QV × QueD} : ∀ (t acc : List (QV × QueD)), (∀ b ∈ t, b.2.res ≠ r) → t.foldl (qStep r p) (acc, true) = (acc ++ t, true)
  | [], acc, _ => by simp
  | a :: t, acc, h => by
    have ha := h a List.mem_cons_self
    rw [List.foldl_cons, show qStep r p (acc, true) a = (acc ++ [a], true) by unfold qStep; simp [ha], qf_true t _ (fun b hb => h b (List.mem_cons_of_mem _ hb))]
    simp
theorem qf_false {r : ResD} {p : QV × QueD} : ∀ (Z acc : List (QV × QueD)), SortQ (Z.map (·.2)) → (qFin p (Z.foldl (qStep r p) (acc, false))).map (·.2) = acc.map (·.2) ++ cL r p.2 (Z.map (·.2))
  | [], acc, _ => by simp [qFin, cL]
  | h :: t, acc, hso => by
    have hc := List.pairwise_cons.1 hso
    have hlt : ∀ b ∈ t, cmpR h.2.res b.2.res < 0 := fun b hb => hc.1 b.2 (List.mem_map_of_mem hb)
    rw [List.foldl_cons, List.map_cons]
    unfold cL
    by_cases h1 : cmpR h.2.res r < 0
    · have hne : h.2.res ≠ r := fun e => by rw [e] at h1; exact cmpR_no r h1
      rw [show qStep r p (acc, false) h = (acc ++ [h], false) by unfold qStep; rw [if_neg hne, if_neg (fun f => f.2 h1)], qf_false t _ hc.2, if_pos h1]
      simp
    · rw [if_neg h1]
      by_cases h2 : h.2.res = r
      · have hn : ∀ b ∈ t, b.2.res ≠ r := fun b hb e => by have h3 := hlt b hb; rw [h2, e] at h3; exact cmpR_no r h3
        rw [show qStep r p (acc, false) h = (acc ++ [p], true) by unfold qStep; simp [h2], qf_true t _ hn, if_pos h2]
        simp [qFin]
      · have hn : ∀ b ∈ t, b.2.res ≠ r := fun b hb e => by have h3 := hlt b hb; rw [e] at h3; exact h1 h3
        rw [show qStep r p (acc, false) h = (acc ++ [p] ++ [h], true) by unfold qStep; rw [if_neg h2, if_pos ⟨rfl, h1⟩], qf_true t _ hn, if_neg h2]
        simp [qFin]
theorem qFold_done {Z : List (QV × QueD)} {r : ResD} {p : QV × QueD} {n : Nat} {L : List QueD} {f : QueD → QueD} (hL : Z.map (·.2) = L) (hso : SortQ L) (hl : Z.length = n) (hp : p.2 = f (if thereQ L r = true then qOf L r else ⟨r, [], []⟩)) : (qFin p (qFold Z r p n)).map (·.2) = chgL L r f := by
  unfold qFold
  rw [List.take_of_length_le (by omega), qf_false Z [] (by rw [hL]; exact hso), hL, List.map_nil, List.nil_append, ← cL_eq, hp]
  unfold chgL
  split <;> rfl
theorem sz_some {L : List QueD} {r : ResD} (hso : SortQ L) {i : Nat} {d : QueD} (hi : L[i]? = some d) (hr : d.res = r) : thereQ L r = true ∧ qOf L r = d := by
  obtain ⟨h1, h2, h3⟩ := qOf_at hso hi hr
  exact ⟨h3, h2⟩
theorem sz_none {L : List QueD} {r : ResD} {n : Nat} (hl : L.length = n) (hno : ∀ i d, i < n → L[i]? = some d → d.res ≠ r) : thereQ L r = false := by
  cases h : thereQ L r with
  | false => rfl
  | true =>
    obtain ⟨d, h1, h2, _⟩ := there_some h
    exact absurd h2 (hno _ d (by have := (List.getElem?_eq_some_iff.1 h1).1; omega) h1)
theorem zero_held {L : List QueD} {r : ResD} (x : Int) : heldH (if thereQ L r = true then qOf L r else ⟨r, [], []⟩ : QueD).hs x = heldH (qOf L r).hs x ∧ (if thereQ L r = true then qOf L r else ⟨r, [], []⟩ : QueD).hs = (qOf L r).hs ∧ (if thereQ L r = true then qOf L r else ⟨r, [], []⟩ : QueD).ws = (qOf L r).ws := by
  by_cases h : thereQ L r = true
  · rw [if_pos h]; exact ⟨rfl, rfl, rfl⟩
  · rw [if_neg h, there_none (by simpa using h)]
    exact ⟨rfl, rfl, rfl⟩
end Go.Proofs.YtbgpppbcffpdbaaGreatDoor
