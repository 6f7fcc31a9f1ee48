/- Page: two joined, what would come, Join. -/
import Derived.Test.YtaiepdhmlmnggaaPJn
namespace Go.Proofs.Ytaiepdhmlmnggaa
open Go.RowKit

def JoinedPost (a b : ContD) (s : KeyD) (w : World) (e : Ending) (w' : World) : Prop := ∃ (vj : CV), e = .returned vj.val ∧ vj.On w' (joinC a b s) ∧ FarV w.heap.size w'.heap.size vj ∧ Below w.heap.size w w'
set_option maxRecDepth 100000 in
set_option maxHeartbeats 4000000 in
theorem joinR_any (v u : CV) (a b : ContD) (kt ki : Int) (w : World) (ha : v.On w a) (hb : u.On w b) (hk : a.kind = 1) (hn : v.rn ≤ 1000000) (hn2 : u.rn ≤ 1000000) :
    Calls Try.prog 56 #[v.val, u.val, .agg #[.int .i64 kt, .int .u16 ki]] w (JoinedPost a b ⟨kt, ki⟩ w) := by
  have h1 := ha.rows
  have h2 := hb.rows
  have hkd : v.k = 1 := ha.kind.trans hk
  have hJ : Hid (joinC a b ⟨kt, ki⟩ = ⟨1, a.rows ++ b.rows, []⟩) := if_pos hk
  obtain ⟨k, rq, rn, rc, kq, kn, kc⟩ := v
  obtain ⟨k2, rq2, rn2, rc2, kq2, kn2, kc2⟩ := u
  simp only at hkd hn hn2 h1 h2
  subst hkd
  obtain ⟨W, hW⟩ : ∃ W, (((w.alloc (.cells #[.int .i64 1, .slice rq rn rc, .slice kq kn kc] 25)).alloc (.cells #[.int .i64 k2, .slice rq2 rn2 rc2, .slice kq2 kn2 kc2] 25)).alloc (.cells #[.int .i64 kt, .int .u16 ki] 28)).alloc (.cells #[.int .i64 0, .slice none 0 0, .slice none 0 0] 25) = W := ⟨_, rfl⟩
  have hbx := Lib.hid (four_rows (xs := [.int .i64 1, .slice rq rn rc, .slice kq kn kc]) (ys := [.int .i64 k2, .slice rq2 rn2 rc2, .slice kq2 kn2 kc2]) (zs := [.int .i64 kt, .int .u16 ki]) (us := [.int .i64 0, .slice none 0 0, .slice none 0 0]) hW)
  have hr1 := Lib.hid (h1.below hbx.out.1 (Nat.le_refl _))
  have hr2 := Lib.hid (h2.below hbx.out.1 (Nat.le_refl _))
  have hok1 := Lib.hid h1.ok
  have hok2 := Lib.hid h2.ok
  have c0 := hbx.out.2.1.boxed.cell 0 rfl
  have c1 := hbx.out.2.1.boxed.cell 1 rfl
  have d1 := hbx.out.2.2.1.boxed.cell 1 rfl
  clear ha hb h1 h2 hk
  show Calls _ _ #[.agg #[.int .i64 1, .slice rq rn rc, .slice kq kn kc], .agg #[.int .i64 k2, .slice rq2 rn2 rc2, .slice kq2 kn2 kc2], .agg #[.int .i64 kt, .int .u16 ki]] _ _
  go_enter Try.func56, Try.ntmps56
  go_wp2_with (first
    | (go_at_call 35
       refine (concatR_any rq rn rc a.rows rq2 rn2 rc2 b.rows _ _ (hr1.out.below ((Below.refl _ _).alloc (Nat.le_refl _) _) (Nat.le_refl _)) (hr2.out.below ((Below.refl _ _).alloc (Nat.le_refl _) _) (Nat.le_refl _)) hn hn2 (Boxed.made W [.slice rq rn rc, .slice rq2 rn2 rc2])).mono ?_
       rintro e w2 ⟨q4, c4, rfl, h7, h8⟩
       have h8' : Below W.heap.size W w2 := ((Below.refl W.heap.size W).alloc (Nat.le_refl _) _).trans (h8.mono (by simp))
       have hr7 := Lib.hid (h7.reads (fun x hx => by
         rcases List.mem_append.1 hx with hx | hx
         · exact hok1.out x hx
         · exact hok2.out x hx))
       have hl7 : Hid (∀ a, q4 = some a → w.heap.size ≤ a.block ∧ a.block < w2.heap.size) := fun a ha => by have h9 := h7.far a ha; have h10 := hbx.out.1.size; simp only [World.size_alloc] at h9; omega
       have hf7 : Hid (∀ a, q4 = some a → a.block ≠ w.heap.size + 3) := fun a ha => by have h9 := (h7.far a ha).1; have h10 := hbx.out.2.2.2.2.1.lt; simp only [World.size_alloc] at h9; omega
       have hd2 := Lib.hid (below_step h8' hbx.out.1)
       have br := Lib.hid (hbx.out.2.2.2.2.1.below h8')
       clear h7 h8 h8')
    | (go_at_call 48
       refine (leafOf_any q4 _ c4 w2).mono ?_
       rintro e w5 ⟨rfl, hb9⟩
       have hd5 := Lib.hid (below_step hb9 hd2.out)
       have br6 := Lib.hid (br.out.below hb9)
       have hr8 := Lib.hid (hr7.out.below hb9 (Nat.le_refl _))
       have hz9 := Lib.hid hb9.size
       clear hb9)
    | ((with_reducible refine wpList_store_at rfl 25 (.tmp 6) (.tmp 17) rfl (o := 0) (vs := [.int .i64 1, .slice q4 (rn + rn2) c4, .slice none 0 0]) rfl rfl br6.out (sizeCont (.int .i64 1) (.slice q4 _ c4) (.slice none 0 0)) (Nat.le_refl _) (cont_one _ _ _ _ _ _ _) ?_)
       intro w9 h9 hg9
       have q9 := Lib.hid h9
       have hg9' := Lib.hid hg9
       clear h9 hg9))
  have s9 : RowV 25 w9 (w.heap.size + 3) [.int .i64 1, .slice q4 (rn + rn2) c4, .slice none 0 0] := q9.out
  have m90 := s9.cell 0
  have m91 := s9.cell 1
  have m92 := s9.cell 2
  simp only [List.getElem?_cons_zero, List.getElem?_cons_succ] at m90 m91 m92
  refine bodyPost_ret (v := .agg #[.int .i64 1, .slice q4 (rn + rn2) c4, .slice none 0 0]) (by simp [results, Try.results56, go_sem, m90, m91, m92]) rfl ?_
  refine ⟨⟨1, q4, rn + rn2, c4, none, 0, 0⟩, rfl, ?_, ⟨fun a ha => ⟨(hl7.out a ha).1, Nat.lt_of_lt_of_le (hl7.out a ha).2 (Nat.le_trans hz9.out hg9'.out.size)⟩, fun a ha => by cases ha⟩, Gr.below hg9'.out hd5.out (by omega)⟩
  rw [hJ.out]
  exact ⟨rfl, hr8.out.gr hg9'.out hf7.out, KidsOn.none_ _⟩

set_option maxRecDepth 100000 in
set_option maxHeartbeats 4000000 in
theorem joinK_any (v u : CV) (a b : ContD) (kt ki : Int) (w : World) (ha : v.On w a) (hb : u.On w b) (hk : a.kind ≠ 1) (hn : v.kn ≤ 1000000) (hn2 : u.kn ≤ 1000000) (hp : 0 < u.kn) (hko : KeyOk ⟨kt, ki⟩) :
    Calls Try.prog 56 #[v.val, u.val, .agg #[.int .i64 kt, .int .u16 ki]] w (JoinedPost a b ⟨kt, ki⟩ w) := by
  have h1 := ha.kids
  have h2 := hb.kids
  have hkd : v.k ≠ 1 := by rw [ha.kind]; exact hk
  have hJ : Hid (joinC a b ⟨kt, ki⟩ = ⟨2, [], a.kids ++ leastAt ⟨kt, ki⟩ b.kids⟩) := if_neg hk
  obtain ⟨k, rq, rn, rc, kq, kn, kc⟩ := v
  obtain ⟨k2, rq2, rn2, rc2, kq2, kn2, kc2⟩ := u
  simp only at hkd hn hn2 h1 h2 hp
  have hk0 : (k == 1) = false := by simpa using hkd
  obtain ⟨⟨x, p⟩, D, hbk⟩ : ∃ x D, b.kids = x :: D := by
    have := h2.len
    cases hbb : b.kids with
    | nil => rw [hbb] at this; simp at this; omega
    | cons x D => exact ⟨x, D, rfl⟩
  obtain ⟨W, hW⟩ : ∃ W, (((w.alloc (.cells #[.int .i64 k, .slice rq rn rc, .slice kq kn kc] 25)).alloc (.cells #[.int .i64 k2, .slice rq2 rn2 rc2, .slice kq2 kn2 kc2] 25)).alloc (.cells #[.int .i64 kt, .int .u16 ki] 28)).alloc (.cells #[.int .i64 0, .slice none 0 0, .slice none 0 0] 25) = W := ⟨_, rfl⟩
  have hbx := Lib.hid (four_rows (xs := [.int .i64 k, .slice rq rn rc, .slice kq kn kc]) (ys := [.int .i64 k2, .slice rq2 rn2 rc2, .slice kq2 kn2 kc2]) (zs := [.int .i64 kt, .int .u16 ki]) (us := [.int .i64 0, .slice none 0 0, .slice none 0 0]) hW)
  have hr1 := Lib.hid (h1.below hbx.out.1 (Nat.le_refl _))
  have hr2 := Lib.hid (h2.below hbx.out.1 (Nat.le_refl _))
  have hok1 := Lib.hid h1.ok
  have hok2 := Lib.hid h2.ok
  have hl1 := Lib.hid h1.len
  have hl2 := Lib.hid h2.len
  have hbk' := Lib.hid hbk
  have hko' := Lib.hid hko
  have hs2 := sizeKey kt ki
  have hk1 := key_one kt ki
  have c0 := hbx.out.2.1.boxed.cell 0 rfl
  have c1 := hbx.out.2.1.boxed.cell 2 rfl
  have d1 := hbx.out.2.2.1.boxed.cell 2 rfl
  have i0 : (0 : Int) ≤ kn := by omega
  have i1 : (kn : Int) < (kn : Int) + kn2 := by omega
  have i2 : (kn : Int) < ((kn + kn2 : Nat) : Int) := by omega
  clear ha hb h1 h2 hk hkd hbk hko
  show Calls _ _ #[.agg #[.int .i64 k, .slice rq rn rc, .slice kq kn kc], .agg #[.int .i64 k2, .slice rq2 rn2 rc2, .slice kq2 kn2 kc2], .agg #[.int .i64 kt, .int .u16 ki]] _ _
  go_enter Try.func56, Try.ntmps56
  go_wp2_with (first
    | (go_at_call 78
       refine (concatK_any kq kn kc a.kids kq2 kn2 kc2 b.kids _ _ (hr1.out.below ((Below.refl _ _).alloc (Nat.le_refl _) _) (Nat.le_refl _)) (hr2.out.below ((Below.refl _ _).alloc (Nat.le_refl _) _) (Nat.le_refl _)) hn hn2 (Boxed.made W [.slice kq kn kc, .slice kq2 kn2 kc2])).mono ?_
       rintro e w2 ⟨q4, c4, rfl, h7, h8⟩
       have h8' : Below W.heap.size W w2 := ((Below.refl W.heap.size W).alloc (Nat.le_refl _) _).trans (h8.mono (by simp))
       obtain ⟨a4, rfl⟩ := h7.some (by omega)
       obtain ⟨g, cur, rfl, hg2, hrow, hnc, hc, hsz, ht⟩ := h7.opened
       rw [hbk'.out] at ht
       have hll : a.kids.length + (D.length + 1) = kn + kn2 := by have a1 := hl1.out; have a2 := hl2.out; rw [hbk'.out, List.length_cons] at a2; omega
       obtain ⟨hst1, hst2, hst3⟩ := kids_store (i := kn) (s := ⟨kt, ki⟩) (A := a.kids) hsz ht hl1.out hll
       have hmk : Hid (∀ u, RowV 64 u g (splice cur (kn * 3) [.int .i64 kt, .int .u16 ki]) → KidsOn u (some ⟨g, 0, none⟩) (kn + kn2) c4 (a.kids ++ ⟨⟨kt, ki⟩, p⟩ :: D)) := fun u hu =>
         (OwnK.mk (B := 0) (Nat.zero_le _) hu hnc hc hst2 hst1 (by rw [List.length_append, List.length_cons]; exact hll)).reads (fun y hy => by
           rcases List.mem_append.1 hy with hy | hy
           · exact hok1.out y hy
           · rcases List.mem_cons.1 hy with rfl | hy
             · exact ⟨hko'.out, (hok2.out ⟨x, p⟩ (by rw [hbk'.out]; exact List.mem_cons_self ..)).page⟩
             · exact hok2.out y (by rw [hbk'.out]; exact List.mem_cons_of_mem _ hy))
       have hd2 := Lib.hid (below_step h8' hbx.out.1)
       have br := Lib.hid (hbx.out.2.2.2.2.1.below h8')
       have bk := Lib.hid ((hbx.out.2.2.2.1.below h8').boxed)
       have hgl : Hid (w.heap.size + 3 < g) := by have h10 := hbx.out.2.2.2.2.1.lt; simp only [World.size_alloc] at hg2; show _ < _; omega
       have c1 := (hbx.out.2.1.below h8').boxed.cell 2 rfl
       have hrow3 := Lib.hid hrow
       have hl7 := Lib.hid hrow.lt
       have hfit : kn * 3 + ([.int .i64 kt, .int .u16 ki] : List Value).length ≤ cur.length := hst3
       clear h7 h8 h8' hg2 hrow hnc hc hsz ht hll hst1 hst2 hst3)
    | (with_reducible refine wpList_load_at rfl 28 (.tmp 5) rfl Try.underlying28 rfl hs2 rfl bk.out.all ?_)
    | ((with_reducible refine wpList_store_at rfl 28 (.tmp 30) (.tmp 28) rfl (o := kn * 3) (vs := [.int .i64 kt, .int .u16 ki]) rfl rfl hrow3.out hs2 hfit hk1 ?_)
       intro w4 h9 hg9
       have hB := Lib.hid (hmk.out w4 h9)
       have br4 := Lib.hid (RowV.gr br.out hg9 (by have := hgl.out; omega))
       have hd4 := Lib.hid (Gr.below hg9 hd2.out (by have := hgl.out; omega))
       have hz8 := Lib.hid hg9.size
       clear h9 hg9)
    | (go_at_call 77
       refine (innerOf_any (some ⟨g, 0, none⟩) (kn + kn2) c4 w4).mono ?_
       rintro e w5 ⟨rfl, hb9⟩
       have hd5 := Lib.hid (below_step hb9 hd4.out)
       have br6 := Lib.hid (br4.out.below hb9)
       have hr8 := Lib.hid (hB.out.below hb9 (Nat.le_refl _))
       have hz9 := Lib.hid hb9.size
       clear hb9)
    | ((with_reducible refine wpList_store_at rfl 25 (.tmp 6) (.tmp 32) rfl (o := 0) (vs := [.int .i64 2, .slice none 0 0, .slice (some ⟨g, 0, none⟩) (kn + kn2) c4]) rfl rfl br6.out (sizeCont (.int .i64 2) (.slice none 0 0) (.slice _ _ c4)) (Nat.le_refl _) (cont_one _ _ _ _ _ _ _) ?_)
       intro w9 h9 hg9
       have q9 := Lib.hid h9
       have hg9' := Lib.hid hg9
       clear h9 hg9))
  have s9 : RowV 25 w9 (w.heap.size + 3) [.int .i64 2, .slice none 0 0, .slice (some ⟨g, 0, none⟩) (kn + kn2) c4] := q9.out
  have m90 := s9.cell 0
  have m91 := s9.cell 1
  have m92 := s9.cell 2
  simp only [List.getElem?_cons_zero, List.getElem?_cons_succ] at m90 m91 m92
  refine bodyPost_ret (v := .agg #[.int .i64 2, .slice none 0 0, .slice (some ⟨g, 0, none⟩) (kn + kn2) c4]) (by simp [results, Try.results56, go_sem, m90, m91, m92]) rfl ?_
  refine ⟨⟨2, none, 0, 0, some ⟨g, 0, none⟩, kn + kn2, c4⟩, rfl, ?_, ⟨fun a ha => (by cases ha), fun a ha => by cases ha; exact ⟨by have := hgl.out; show w.heap.size ≤ g; omega, Nat.lt_of_lt_of_le hl7.out (Nat.le_trans hz8.out (Nat.le_trans hz9.out hg9'.out.size))⟩⟩, Gr.below hg9'.out hd5.out (by omega)⟩
  rw [hJ.out, hbk'.out]
  exact ⟨rfl, RowsOn.none_ _, hr8.out.gr hg9'.out (fun a ha => by cases ha; have := hgl.out; show g ≠ _; omega)⟩

theorem joined_any (v u : CV) (a b : ContD) (kt ki : Int) (w : World) (ha : v.On w a) (hb : u.On w b) (hga : GoodC a) (hgb : GoodC b) (hk0 : a.kind ≠ 0) (hkk : a.kind = b.kind) (hko : KeyOk ⟨kt, ki⟩) :
    Calls Try.prog 56 #[v.val, u.val, .agg #[.int .i64 kt, .int .u16 ki]] w (JoinedPost a b ⟨kt, ki⟩ w) := by
  have h1 := good_size hga
  have h2 := good_size hgb
  have a1 := ha.rl
  have a2 := ha.kl
  have b1 := hb.rl
  have b2 := hb.kl
  unfold sizeC at h1 h2
  by_cases hk : a.kind = 1
  · exact joinR_any v u a b kt ki w ha hb hk (by omega) (by omega)
  · have hb2 : b.kind = 2 := by rcases good_kind hgb with h | h | h <;> omega
    have hfew := (good_inner hgb hb2).1.few
    exact joinK_any v u a b kt ki w ha hb hk (by omega) (by omega) (by omega) hko
theorem two_rows {w W : World} {T1 T2 : TypeId} {xs ys : List Value} (h : (w.alloc (.cells xs.toArray T1)).alloc (.cells ys.toArray T2) = W) : Below w.heap.size w W ∧ RowV T1 W w.heap.size xs ∧ RowV T2 W (w.heap.size + 1) ys ∧ W.heap.size = w.heap.size + 2 := by
  have h1 := RowV.made (T := T1) w xs
  have h2 := RowV.made (T := T2) (w.alloc (.cells xs.toArray T1)) ys
  have s0 : Below w.heap.size w (w.alloc (.cells xs.toArray T1)) := (Below.refl _ _).alloc (Nat.le_refl _) _
  have s1 : Below (w.alloc (.cells xs.toArray T1)).heap.size (w.alloc (.cells xs.toArray T1)) W := by rw [← h]; exact (Below.refl _ _).alloc (Nat.le_refl _) _
  rw [h] at h2
  simp only [World.size_alloc] at h2
  exact ⟨below_step s1 s0, h1.below s1, h2, by rw [← h]; simp only [World.size_alloc]⟩
def fnMay : Value := .func (.func 41) #[] #[]
def ComePost (v : CV) (c : ContD) (w : World) (e : Ending) (w' : World) : Prop := ∃ (u : CV) (x : Int), e = .returned (.tuple #[u.val, .int .i64 x]) ∧ ((GoodC c ∧ u = v ∧ x = 0) ∨ (¬ GoodC c ∧ u = zV ∧ x = 2)) ∧ Below w.heap.size w w'
set_option maxRecDepth 100000 in
set_option maxHeartbeats 4000000 in
theorem come1_any (v : CV) (c : ContD) (b : Nat) (w : World) (h : v.On w c) (hb : w.cell? ⟨b, 0, none⟩ = some (.func (.func 41) #[] #[])) :
    Calls Try.prog 55 #[v.val, .slice (some ⟨b, 0, none⟩) 1 1] w (ComePost v c w) := by
  obtain ⟨g, hg⟩ := bool_of (GoodC c)
  have hmb := Lib.hid (fun u (hu : Below w.heap.size w u) => mayBe_any v c g hg u (h.below hu (Nat.le_refl _)))
  obtain ⟨k, rq, rn, rc, kq, kn, kc⟩ := v
  obtain ⟨W, hW⟩ : ∃ W, (w.alloc (.cells #[.int .i64 k, .slice rq rn rc, .slice kq kn kc] 25)).alloc (.cells #[.int .i64 0, .slice none 0 0, .slice none 0 0] 25) = W := ⟨_, rfl⟩
  have hbx := Lib.hid (two_rows (xs := [.int .i64 k, .slice rq rn rc, .slice kq kn kc]) (ys := [.int .i64 0, .slice none 0 0, .slice none 0 0]) hW)
  have hs := sizeCont (.int .i64 k) (.slice rq rn rc) (.slice kq kn kc)
  have hz := sizeCont (.int .i64 0) (.slice none 0 0) (.slice none 0 0)
  have hg' := Lib.hid hg
  have hbb := Lib.hid hb
  have hw1 : Hid (w.heap.size ≤ w.heap.size + 1) := Nat.le_succ _
  clear h hg hb
  show Calls _ _ #[.agg #[.int .i64 k, .slice rq rn rc, .slice kq kn kc], .slice (some ⟨b, 0, none⟩) 1 1] _ _
  go_enter Try.func55, Try.ntmps55
  go_wp2
  go_loopw [10] (fun v10 wr => ∃ k : Int, v10 = .int .i64 k ∧ Hid (Below W.heap.size W wr) ∧ (k = 0 ∨ (k = 1 ∧ g = true))) (fun v10 _ => 1 - (RowKit.intOf v10).toNat)
  case atStart => exact ⟨0, rfl, (show Below _ _ _ from Below.refl _ _), .inl rfl⟩
  case round =>
    obtain ⟨j, rfl, hbr, hj⟩ := hrel
    have hdr := Lib.hid (below_step hbr.out hbx.out.1)
    have bx := Lib.hid ((hbx.out.2.1.below hbr.out).boxed)
    have br := Lib.hid (hbx.out.2.2.1.below hbr.out)
    have cb := cell_keeps hdr.out (Nat.le_refl _) hbb.out
    rcases hj with rfl | ⟨rfl, rfl⟩
    · go_wp2_with (first
        | (with_reducible refine wpList_load_at rfl 25 (.tmp 2) rfl Try.underlying25 rfl hs rfl bx.out.all ?_))
      refine (hmb.out wr hdr.out).mono ?_
      clear cb
      rintro e w1 ⟨rfl, hb1⟩
      have hd1 := Lib.hid (below_step hb1 hdr.out)
      have hc1 := Lib.hid (below_step hb1 hbr.out)
      have br1 := Lib.hid (br.out.below hb1)
      clear hb1
      cases g with
      | false =>
        have hn : Hid (¬ GoodC c) := fun h => by have := hg'.out.2 h; cases this
        go_wp2_with (first
          | ((with_reducible refine wpList_store_at rfl 25 (.tmp 4) (.tmp 18) rfl (o := 0) (vs := [.int .i64 0, .slice none 0 0, .slice none 0 0]) rfl rfl br1.out hz (Nat.le_refl _) (cont_one _ _ _ _ _ _ _) ?_)
             intro w9 h9 hg9
             have q9 := Lib.hid h9
             have hg9' := Lib.hid hg9
             clear h9 hg9))
        have s9 : RowV 25 w9 (w.heap.size + 1) [.int .i64 0, .slice none 0 0, .slice none 0 0] := q9.out
        have m90 := s9.cell 0
        have m91 := s9.cell 1
        have m92 := s9.cell 2
        simp only [List.getElem?_cons_zero, List.getElem?_cons_succ] at m90 m91 m92
        refine bodyPost_ret (v := .tuple #[CV.val zV, .int .i64 2]) (by simp [results, Try.results55, go_sem, m90, m91, m92, zV]) rfl ?_
        exact ⟨zV, 2, rfl, .inr ⟨hn.out, rfl, rfl⟩, Gr.below hg9'.out hd1.out hw1.out⟩
      | true =>
        go_wp2
        go_roundw
        case rel => exact ⟨1, by go_num, hc1, .inr ⟨rfl, by simp⟩⟩
        case measure => simp [RowKit.intOf]
    · have hG := Lib.hid (hg'.out.1 rfl)
      clear cb
      go_wp2_with (first
        | (with_reducible refine wpList_load_at rfl 25 (.tmp 2) rfl Try.underlying25 rfl hs rfl bx.out.all ?_)
        | ((with_reducible refine wpList_store_at rfl 25 (.tmp 4) (.tmp 20) rfl (o := 0) (vs := [.int .i64 k, .slice rq rn rc, .slice kq kn kc]) rfl rfl br.out hs (Nat.le_refl _) (cont_one _ _ _ _ _ _ _) ?_)
           intro w9 h9 hg9
           have q9 := Lib.hid h9
           have hg9' := Lib.hid hg9
           clear h9 hg9))
      have s9 : RowV 25 w9 (w.heap.size + 1) [.int .i64 k, .slice rq rn rc, .slice kq kn kc] := q9.out
      have m90 := s9.cell 0
      have m91 := s9.cell 1
      have m92 := s9.cell 2
      simp only [List.getElem?_cons_zero, List.getElem?_cons_succ] at m90 m91 m92
      refine bodyPost_ret (v := .tuple #[.agg #[.int .i64 k, .slice rq rn rc, .slice kq kn kc], .int .i64 0]) (by simp [results, Try.results55, go_sem, m90, m91, m92]) rfl ?_
      exact ⟨⟨k, rq, rn, rc, kq, kn, kc⟩, 0, rfl, .inl ⟨hG.out, rfl, rfl⟩, Gr.below hg9'.out hdr.out hw1.out⟩

def JoinR (a b : ContD) (s : KeyD) (d : ContD) (x : Int) : Prop := (x = 160 ∧ ¬ (GoodC a ∧ GoodC b) ∧ d = zeroC) ∨ ((GoodC a ∧ GoodC b) ∧ (((a.kind = 0 ∨ a.kind ≠ b.kind) ∧ x = 2 ∧ d = zeroC) ∨ ((a.kind ≠ 0 ∧ a.kind = b.kind) ∧ ((4 < sizeC a + sizeC b ∧ x = 6 ∧ d = zeroC) ∨ (sizeC a + sizeC b ≤ 4 ∧ ((¬ GoodC (joinC a b s) ∧ x = 2 ∧ d = zeroC) ∨ (GoodC (joinC a b s) ∧ x = 0 ∧ d = joinC a b s)))))))
def JoinPost (a b : ContD) (s : KeyD) (w : World) (e : Ending) (w' : World) : Prop := ∃ (vj : CV) (d : ContD) (x : Int), e = .returned (.tuple #[vj.val, .int .i64 x]) ∧ JoinR a b s d x ∧ vj.On w' d ∧ Below w.heap.size w w'
set_option maxRecDepth 100000 in
set_option maxHeartbeats 4000000 in
theorem join_any (v u : CV) (a b : ContD) (kt ki : Int) (w : World) (ha : v.On w a) (hb : u.On w b) (hko : KeyOk ⟨kt, ki⟩) :
    Calls Try.prog 27 #[v.val, u.val, .agg #[.int .i64 kt, .int .u16 ki]] w (JoinPost a b ⟨kt, ki⟩ w) := by
  have hcp := Lib.hid (fun y (hu : Below w.heap.size w y) => checkPair_any v u a b y (ha.below hu (Nat.le_refl _)) (hb.below hu (Nat.le_refl _)))
  have hza := Lib.hid (fun (hgc : GoodC a) y (hu : Below w.heap.size w y) => psize_any v a y (ha.below hu (Nat.le_refl _)) (Nat.le_trans (good_size hgc) (by decide)))
  have hzb := Lib.hid (fun (hgc : GoodC b) y (hu : Below w.heap.size w y) => psize_any u b y (hb.below hu (Nat.le_refl _)) (Nat.le_trans (good_size hgc) (by decide)))
  have hrm := Lib.hid (fun y => room_any v y)
  have hjo := Lib.hid (fun (hga : GoodC a) (hgb : GoodC b) (hk0 : a.kind ≠ 0) (hkk : a.kind = b.kind) y (hu : Below w.heap.size w y) => joined_any v u a b kt ki y (ha.below hu (Nat.le_refl _)) (hb.below hu (Nat.le_refl _)) hga hgb hk0 hkk hko)
  obtain ⟨k, rq, rn, rc, kq, kn, kc⟩ := v
  obtain ⟨k2, rq2, rn2, rc2, kq2, kn2, kc2⟩ := u
  obtain ⟨W, hW⟩ : ∃ W, (((w.alloc (.cells #[.int .i64 k, .slice rq rn rc, .slice kq kn kc] 25)).alloc (.cells #[.int .i64 k2, .slice rq2 rn2 rc2, .slice kq2 kn2 kc2] 25)).alloc (.cells #[.int .i64 kt, .int .u16 ki] 28)).alloc (.cells #[.int .i64 0, .slice none 0 0, .slice none 0 0] 25) = W := ⟨_, rfl⟩
  have hbx := Lib.hid (four_rows (xs := [.int .i64 k, .slice rq rn rc, .slice kq kn kc]) (ys := [.int .i64 k2, .slice rq2 rn2 rc2, .slice kq2 kn2 kc2]) (zs := [.int .i64 kt, .int .u16 ki]) (us := [.int .i64 0, .slice none 0 0, .slice none 0 0]) hW)
  have hs := sizeCont (.int .i64 k) (.slice rq rn rc) (.slice kq kn kc)
  have hs2 := sizeCont (.int .i64 k2) (.slice rq2 rn2 rc2) (.slice kq2 kn2 kc2)
  have hs3 := sizeKey kt ki
  have hz := sizeCont (.int .i64 0) (.slice none 0 0) (.slice none 0 0)
  have hw3 : Hid (w.heap.size ≤ w.heap.size + 3) := Nat.le_add_right _ _
  have ba := Lib.hid hbx.out.2.1.boxed
  have bb := Lib.hid hbx.out.2.2.1.boxed
  have bk := Lib.hid hbx.out.2.2.2.1.boxed
  clear ha hb hko
  show Calls _ _ #[.agg #[.int .i64 k, .slice rq rn rc, .slice kq kn kc], .agg #[.int .i64 k2, .slice rq2 rn2 rc2, .slice kq2 kn2 kc2], .agg #[.int .i64 kt, .int .u16 ki]] _ _
  go_enter Try.func27, Try.ntmps27
  go_wp2_with (first
    | (with_reducible refine wpList_load_at rfl 25 (.tmp 3) rfl Try.underlying25 rfl hs rfl ba.out.all ?_)
    | (with_reducible refine wpList_load_at rfl 25 (.tmp 4) rfl Try.underlying25 rfl hs2 rfl bb.out.all ?_))
  refine (hcp.out W hbx.out.1).mono ?_
  clear hcp hW
  rintro e w1 ⟨x, rfl, hx, hb1⟩
  have hd1 := Lib.hid (below_step hb1 hbx.out.1)
  have ba1 := Lib.hid (ba.out.below hb1 (Nat.le_refl _))
  have bb1 := Lib.hid (bb.out.below hb1 (Nat.le_refl _))
  have bk1 := Lib.hid (bk.out.below hb1 (Nat.le_refl _))
  have br1 := Lib.hid (hbx.out.2.2.2.2.1.below hb1)
  clear hb1 hbx ba bb bk
  have hx' := Lib.hid hx
  rcases hx with ⟨rfl, hn⟩ | ⟨hga, hgb, hk, rfl⟩ | ⟨hga, hgb, hk0, hkk, rfl⟩
  · have hn' := Lib.hid hn
    clear hza hzb hrm hjo hn hx'
    go_wp2_with (first
      | ((with_reducible refine wpList_store_at rfl 25 (.tmp 6) (.tmp 14) rfl (o := 0) (vs := [.int .i64 0, .slice none 0 0, .slice none 0 0]) rfl rfl br1.out hz (Nat.le_refl _) (cont_one _ _ _ _ _ _ _) ?_)
         intro w9 h9 hg9
         have q9 := Lib.hid h9
         have hg9' := Lib.hid hg9
         clear h9 hg9))
    have s9 : RowV 25 w9 (w.heap.size + 3) [.int .i64 0, .slice none 0 0, .slice none 0 0] := q9.out
    have m90 := s9.cell 0
    have m91 := s9.cell 1
    have m92 := s9.cell 2
    simp only [List.getElem?_cons_zero, List.getElem?_cons_succ] at m90 m91 m92
    refine bodyPost_ret (v := .tuple #[CV.val zV, .int .i64 160]) (by simp [results, Try.results27, go_sem, m90, m91, m92, zV]) rfl ?_
    exact ⟨zV, zeroC, 160, rfl, .inl ⟨rfl, hn'.out, rfl⟩, zV_on _, Gr.below hg9'.out hd1.out hw3.out⟩
  · have hn' := Lib.hid (And.intro (And.intro hga hgb) hk)
    clear hza hzb hrm hjo hga hgb hk hx'
    go_wp2_with (first
      | ((with_reducible refine wpList_store_at rfl 25 (.tmp 6) (.tmp 14) rfl (o := 0) (vs := [.int .i64 0, .slice none 0 0, .slice none 0 0]) rfl rfl br1.out hz (Nat.le_refl _) (cont_one _ _ _ _ _ _ _) ?_)
         intro w9 h9 hg9
         have q9 := Lib.hid h9
         have hg9' := Lib.hid hg9
         clear h9 hg9))
    have s9 : RowV 25 w9 (w.heap.size + 3) [.int .i64 0, .slice none 0 0, .slice none 0 0] := q9.out
    have m90 := s9.cell 0
    have m91 := s9.cell 1
    have m92 := s9.cell 2
    simp only [List.getElem?_cons_zero, List.getElem?_cons_succ] at m90 m91 m92
    refine bodyPost_ret (v := .tuple #[CV.val zV, .int .i64 2]) (by simp [results, Try.results27, go_sem, m90, m91, m92, zV]) rfl ?_
    exact ⟨zV, zeroC, 2, rfl, .inr ⟨hn'.out.1, .inl ⟨hn'.out.2, rfl, rfl⟩⟩, zV_on _, Gr.below hg9'.out hd1.out hw3.out⟩
  · have hG := Lib.hid (And.intro hga hgb)
    have hK := Lib.hid (And.intro hk0 hkk)
    have hzz := Lib.hid (And.intro (good_size hga) (good_size hgb))
    have hza := Lib.hid (hza.out hga)
    have hzb := Lib.hid (hzb.out hgb)
    have hjo := Lib.hid (hjo.out hga hgb hk0 hkk)
    clear hga hgb hk0 hkk hx'
    obtain ⟨m, hm⟩ : ∃ m, sizeC a = m := ⟨_, rfl⟩
    obtain ⟨n, hn⟩ : ∃ n, sizeC b = n := ⟨_, rfl⟩
    have hm' := Lib.hid hm
    have hn' := Lib.hid hn
    rw [hm] at hza hzz
    rw [hn] at hzb hzz
    have hm4 : m ≤ 4 := hzz.out.1
    have hn4 : n ≤ 4 := hzz.out.2
    have e1 : IntKind.i64.wrap ((m : Int) + n) = (m : Int) + n := IntWalk.i64_in _ (by omega)
    obtain ⟨q, hq⟩ : ∃ q : Bool, decide ((4 : Int) < (m : Int) + n) = q := ⟨_, rfl⟩
    have hq' := Lib.hid hq
    clear hm hn
    go_wp2_with fail
    refine wp_region_held (S := fun y => Below w1.heap.size w1 y) (by kernel_rfl) ?_
    change wpAnyH _ _ _ _ _ _ _ _ (World.drew w1)
    refine wpF.held _ _ _ ?_ _ (below_drew w1)
    refine fx (i := 0) (dst := some 16) rfl rfl (fx_load 25 (.tmp 3) (fun y hy => run_loadVar_at Try.underlying25 rfl hs _ (ba1.out.below hy (Nat.le_refl _)).all)) ?_; go_frame
    refine fx (i := 1) (dst := some 17) (v := .int .i64 (m : Int)) rfl rfl (fx_call (fun y hy => (hza.out y (below_step hy hd1.out)).mono fun e z h => ⟨h.1, below_step h.2 hy⟩)) ?_; go_frame
    refine fx (i := 2) (dst := some 18) rfl rfl (fx_load 25 (.tmp 4) (fun y hy => run_loadVar_at Try.underlying25 rfl hs2 _ (bb1.out.below hy (Nat.le_refl _)).all)) ?_; go_frame
    refine fx (i := 3) (dst := some 19) (v := .int .i64 (n : Int)) rfl rfl (fx_call (fun y hy => (hzb.out y (below_step hy hd1.out)).mono fun e z h => ⟨h.1, below_step h.2 hy⟩)) ?_; go_frame
    refine fx (i := 4) (dst := some 20) (v := .int .i64 ((m : Int) + n)) rfl rfl (fx_read (fun y hy => by go_simp)) ?_; go_frame
    refine fx (i := 5) (dst := some 21) rfl rfl (fx_load 25 (.tmp 3) (fun y hy => run_loadVar_at Try.underlying25 rfl hs _ (ba1.out.below hy (Nat.le_refl _)).all)) ?_; go_frame
    refine fx (i := 6) (dst := some 22) (v := .int .i64 4) rfl rfl (fx_call (fun y hy => (hrm.out y).mono fun e z h => ⟨h.1, below_step h.2 hy⟩)) ?_; go_frame
    refine fx (i := 7) (dst := some 23) (v := .bool q) rfl rfl (fx_read (fun y hy => by go_simp)) ?_; go_frame
    refine fx_done (fun w2 hy => ?_) (by kernel_rfl) _
    have hd2 := Lib.hid (below_step hy hd1.out)
    have ba2 := Lib.hid (ba1.out.below hy (Nat.le_refl _))
    have bb2 := Lib.hid (bb1.out.below hy (Nat.le_refl _))
    have bk2 := Lib.hid (bk1.out.below hy (Nat.le_refl _))
    have br2 := Lib.hid (br1.out.below hy)
    clear hy ba1 bb1 bk1 br1 hd1 hza hzb hrm hq e1
    cases q with
    | true =>
      clear hjo
      go_wp2_with (first
        | ((with_reducible refine wpList_store_at rfl 25 (.tmp 6) (.tmp 24) rfl (o := 0) (vs := [.int .i64 0, .slice none 0 0, .slice none 0 0]) rfl rfl br2.out hz (Nat.le_refl _) (cont_one _ _ _ _ _ _ _) ?_)
           intro w9 h9 hg9
           have q9 := Lib.hid h9
           have hg9' := Lib.hid hg9
           clear h9 hg9))
      have s9 : RowV 25 w9 (w.heap.size + 3) [.int .i64 0, .slice none 0 0, .slice none 0 0] := q9.out
      have m90 := s9.cell 0
      have m91 := s9.cell 1
      have m92 := s9.cell 2
      simp only [List.getElem?_cons_zero, List.getElem?_cons_succ] at m90 m91 m92
      refine bodyPost_ret (v := .tuple #[CV.val zV, .int .i64 6]) (by simp [results, Try.results27, go_sem, m90, m91, m92, zV]) rfl ?_
      exact ⟨zV, zeroC, 6, rfl, .inr ⟨hG.out, .inr ⟨hK.out, .inl ⟨by rw [hm'.out, hn'.out]; have := of_decide_eq_true hq'.out; omega, rfl, rfl⟩⟩⟩, zV_on _, Gr.below hg9'.out hd2.out hw3.out⟩
    | false =>
      go_wp2_with (first
        | (with_reducible refine wpList_load_at rfl 25 (.tmp 3) rfl Try.underlying25 rfl hs rfl ba2.out.all ?_)
        | (with_reducible refine wpList_load_at rfl 25 (.tmp 4) rfl Try.underlying25 rfl hs2 rfl bb2.out.all ?_)
        | (with_reducible refine wpList_load_at rfl 28 (.tmp 5) rfl Try.underlying28 rfl hs3 rfl bk2.out.all ?_))
      refine (hjo.out w2 hd2.out).mono ?_
      clear hjo
      rintro e w3 ⟨vj, rfl, hvj, hfv, hb3⟩
      obtain ⟨k5, rq5, rn5, rc5, kq5, kn5, kc5⟩ := vj
      simp only [CV.val]
      have hd3 := Lib.hid (below_step hb3 hd2.out)
      have br3 := Lib.hid (br2.out.below hb3)
      have hvj' := Lib.hid hvj
      have hbz : Hid (w.heap.size + 3 < w2.heap.size) := br2.out.lt
      have hfv' : Hid ((∀ a, rq5 = some a → a.block ≠ w.heap.size + 3) ∧ (∀ a, kq5 = some a → a.block ≠ w.heap.size + 3)) := ⟨fun a ha => by have := (hfv.1 a ha).1; have := hbz.out; omega, fun a ha => by have := (hfv.2 a ha).1; have := hbz.out; omega⟩
      clear hb3 hvj hfv ba2 bb2 bk2 br2 hd2
      obtain ⟨w4, hw4⟩ : ∃ w4, w3.alloc (.cells #[.func (.func 41) #[] #[]] 79) = w4 := ⟨_, rfl⟩
      have hbn := Lib.hid (one_box (xs := [.func (.func 41) #[] #[]]) hw4)
      have hd4 := Lib.hid (below_step hbn.out.1 hd3.out)
      have br4 := Lib.hid (br3.out.below hbn.out.1)
      have hv4 := Lib.hid (CV.On.below hvj'.out hbn.out.1 (Nat.le_refl _))
      have hco := Lib.hid (come1_any ⟨k5, rq5, rn5, rc5, kq5, kn5, kc5⟩ _ w3.heap.size w4 hv4.out (hbn.out.2.1.cell 0 rfl))
      clear hbn br3 hd3 hvj'
      go_wp2_with fail
      refine hco.out.mono ?_
      clear hco hw4
      rintro e w5 ⟨⟨k6, rq6, rn6, rc6, kq6, kn6, kc6⟩, x, rfl, hx, hb5⟩
      have hd5 := Lib.hid (below_step hb5 hd4.out)
      have br5 := Lib.hid (br4.out.below hb5)
      have hv5 := Lib.hid (hv4.out.below hb5 (Nat.le_refl _))
      have hx' := Lib.hid hx
      simp only [CV.val]
      clear hb5 hx br4 hd4 hv4
      go_wp2_with (first
        | ((with_reducible refine wpList_store_at rfl 25 (.tmp 6) (.tmp 31) rfl (o := 0) (vs := [.int .i64 k6, .slice rq6 rn6 rc6, .slice kq6 kn6 kc6]) rfl rfl br5.out (sizeCont (.int .i64 k6) (.slice rq6 rn6 rc6) (.slice kq6 kn6 kc6)) (Nat.le_refl _) (cont_one _ _ _ _ _ _ _) ?_)
           intro w9 h9 hg9
           have q9 := Lib.hid h9
           have hg9' := Lib.hid hg9
           clear h9 hg9))
      have s9 : RowV 25 w9 (w.heap.size + 3) [.int .i64 k6, .slice rq6 rn6 rc6, .slice kq6 kn6 kc6] := q9.out
      have m90 := s9.cell 0
      have m91 := s9.cell 1
      have m92 := s9.cell 2
      simp only [List.getElem?_cons_zero, List.getElem?_cons_succ] at m90 m91 m92
      refine bodyPost_ret (v := .tuple #[.agg #[.int .i64 k6, .slice rq6 rn6 rc6, .slice kq6 kn6 kc6], .int .i64 x]) (by simp [results, Try.results27, go_sem, m90, m91, m92]) rfl ?_
      have hsm : sizeC a + sizeC b ≤ 4 := by rw [hm'.out, hn'.out]; have := of_decide_eq_false hq'.out; omega
      rcases hx'.out with ⟨hgj, he, rfl⟩ | ⟨hgj, he, rfl⟩
      · refine ⟨⟨k6, rq6, rn6, rc6, kq6, kn6, kc6⟩, joinC a b ⟨kt, ki⟩, 0, rfl, .inr ⟨hG.out, .inr ⟨hK.out, .inr ⟨hsm, .inr ⟨hgj, rfl, rfl⟩⟩⟩⟩, ?_, Gr.below hg9'.out hd5.out hw3.out⟩
        rw [he]
        exact ContOn.gr hv5.out hg9'.out hfv'.out.1 hfv'.out.2
      · exact ⟨⟨k6, rq6, rn6, rc6, kq6, kn6, kc6⟩, zeroC, 2, rfl, .inr ⟨hG.out, .inr ⟨hK.out, .inr ⟨hsm, .inl ⟨hgj, rfl, rfl⟩⟩⟩⟩, (by rw [he]; exact zV_on _), Gr.below hg9'.out hd5.out hw3.out⟩
end Go.Proofs.Ytaiepdhmlmnggaa
