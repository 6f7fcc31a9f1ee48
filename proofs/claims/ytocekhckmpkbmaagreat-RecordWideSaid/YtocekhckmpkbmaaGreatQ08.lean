/- The reader of codec: content; take; TakeContent and TakeRow. -/
import Derived.Test.YtocekhckmpkbmaaGreatQ07
namespace Go.Proofs.YtocekhckmpkbmaaGreat
open Go.RowKit Go.ChangeMaps
/-- what content gives: the content, its error, and what is ahead then -/
def partP (s : St) : ContD × Int × St := if s.num 1 = 0 then freeP (s.next 1) else if s.num 1 = 1 then leafP (s.next 1) else innerP (s.next 1)
def ContentIs (s : St) (c : ContD) (er : Int) (s' : St) : Prop :=
 if (s.next 1).e ≠ 0 then c = zeroC ∧ er = (s.next 1).e ∧ s' = s.next 1
 else if 2 < s.num 1 then c = zeroC ∧ er = 161 ∧ s' = s.next 1
 else if (partP s).2.1 ≠ 0 then c = zeroC ∧ er = (partP s).2.1 ∧ s' = (partP s).2.2
 else (GoodC (partP s).1 ∧ c = (partP s).1 ∧ er = 0 ∧ s' = (partP s).2.2) ∨ (¬ GoodC (partP s).1 ∧ c = zeroC ∧ er = 161 ∧ s' = (partP s).2.2)
def ContentRd (s : St) (w : World) (g : Nat) (d : Option Nat) (e : Ending) (w' : World) : Prop :=
 ∃ c er s' k rq rn rc kq kn kc, ContentIs s c er s' ∧ e = .returned (.tuple #[.agg #[.int .i64 k, .slice rq rn rc, .slice kq kn kc], .int .i64 er]) ∧ ContOn w' k rq rn rc kq kn kc c ∧ Far w.heap.size rq ∧ Far w.heap.size kq ∧ w.grownBy w' (some g) ∧ RdrS w' g d s'
set_option maxRecDepth 100000 in
set_option maxHeartbeats 4000000 in
theorem content_rd (g : Nat) (d : Option Nat) (s : St) (w : World) (h : RdrS w g d s) :
 Calls Tryz.prog 149 #[.agg #[.pointer (some ⟨g, 0, none⟩)]] w (ContentRd s w g d) := by
 obtain ⟨W, hW⟩ : ∃ W, (w.alloc (.cells #[.pointer (some ⟨g, 0, none⟩)] 190)).alloc (.cells #[.int .i64 0, .slice none 0 0, .slice none 0 0] 55) = W := ⟨_, rfl⟩
 have hbx := Lib.hid (two_boxes (xs := [.pointer (some ⟨g, 0, none⟩)]) (ys := [.int .i64 0, .slice none 0 0, .slice none 0 0]) hW)
 have hres : Hid (RowV 55 W (w.heap.size + 1) [.int .i64 0, .slice none 0 0, .slice none 0 0]) := by
  have h0 := RowV.made (T := 55) (w.alloc (.cells #[.pointer (some ⟨g, 0, none⟩)] 190)) [.int .i64 0, .slice none 0 0, .slice none 0 0]
  show RowV _ _ _ _
  rw [← hW]; simpa using h0
 have hg := h.lt
 have hsrc := Lib.hid h.src
 have hr := Lib.hid (h.below hbx.out.1)
 have hs1 := sizeRd (.pointer (some ⟨g, 0, none⟩))
 have hz1 := sizeCont (.int .i64 0) (.slice none 0 0) (.slice none 0 0)
 have c0 := hbx.out.2.1.cell 0 rfl
 have hn := numV1 s.l s.e
 obtain ⟨z, hz⟩ : ∃ z, s.num 1 = z := ⟨_, rfl⟩
 have hzz : 0 ≤ z ∧ z < 256 := by rw [← hz]; exact hn
 obtain ⟨z0, z2⟩ := hzz
 have hu8 := rd8 g d s W hr.out
 rw [hz] at hu8
 have hz' := Lib.hid hz
 clear h hz hn
 go_enter Tryz.func149, Tryz.ntmps149
 go_wp2_with fail
 clear hW
 refine hu8.mono ?_
 clear hu8
 rintro e w1 ⟨rfl, hg1, hr1⟩
 have b1 := Lib.hid (hbx.out.2.1.gr hg1 (by omega))
 have s1 := Lib.hid (hres.out.gr hg1 (by omega))
 have gr1 := Lib.hid (Gr.after hbx.out.1 hg1)
 have r1 := Lib.hid hr1
 have d1 := b1.out.cell 0 rfl
 clear hg1 hr1 c0
 go_wp2_with fail
 refine (rdErr g d (s.next 1) w1 r1.out).mono ?_
 rintro e w1' ⟨rfl, rfl⟩
 clear d1
 obtain ⟨er, her⟩ : ∃ x, (s.next 1).e = x := ⟨_, rfl⟩
 rw [her]
 have her' := Lib.hid her
 clear her
 by_cases hz7 : er = 0
 · subst hz7
   have hlow : w.heap.size + 2 ≤ w1.heap.size := by have h1 := s1.out.lt; omega
   go_wp2_with (first
    | (with_reducible refine wpList_load_at rfl 190 (.tmp 1) rfl Tryz.underlying190 rfl hs1 rfl b1.out.all ?_))
   refine (kinds_any g w1).mono ?_
   rintro e w2 ⟨mb, rfl, hmap, hb2⟩
   have b2 := Lib.hid (b1.out.below hb2 (Nat.le_refl _))
   have s2 := Lib.hid (s1.out.below hb2)
   have gr2 := Lib.hid (Gr.then gr1.out hb2)
   have r2 := Lib.hid (r1.out.below hb2)
   have hmap' := Lib.hid hmap
   clear hb2 hmap
   have hzf : (zeroValue 188).run Tryz.prog w2 = .ok (.nilFunc) w2 := by kernel_rfl
   have hcase : z = 0 ∨ z = 1 ∨ z = 2 ∨ 2 < z := by omega
   rcases hcase with rfl | rfl | rfl | h2z
   · have hpart : Hid (partP s = freeP (s.next 1)) := by show partP s = _; unfold partP; rw [hz'.out]; rfl
     have hkf : kindsF g 0 = some (.func (.func 160) #[.agg #[.pointer (some ⟨g, 0, none⟩)]] #[]) := rfl
     go_wp2_with (first
      | (with_reducible refine wpList_lookup_ok_i rfl (.tmp 22) (.tmp 24) 198 rfl Tryz.underlying198 Tryz.underlying3 hzf rfl rfl hmap'.out ?_))
     refine (free_rd g d (s.next 1) w2 r2.out).mono ?_
     rintro e w3 ⟨c, e3, s3, k3, rq, rn, rc, kq, kn, kc, hp3, rfl, hon, hf1, hf2, hg3, hr3⟩
     have hp3' := Lib.hid hp3
     have hon3 := Lib.hid hon
     have hf1' := Lib.hid hf1
     have hf2' := Lib.hid hf2
     have b3 := Lib.hid (b2.out.gr hg3 (by omega))
     have s3' := Lib.hid (s2.out.gr hg3 (by omega))
     have gr3 := Lib.hid (gr2.out.trans hg3)
     have r3 := Lib.hid hr3
     have hlow3 : w.heap.size + 2 ≤ w3.heap.size := by have h1 := s3'.out.lt; omega
     have hfa1 : Hid (∀ a, rq = some a → a.block ≠ w.heap.size + 1) := fun a ha => by have := hf1'.out a ha; have := s2.out.lt; omega
     have hfa2 : Hid (∀ a, kq = some a → a.block ≠ w.heap.size + 1) := fun a ha => by have := hf2'.out a ha; have := s2.out.lt; omega
     have hff1 : Hid (Far w.heap.size rq) := fun a ha => by have := hf1'.out a ha; have := s2.out.lt; omega
     have hff2 : Hid (Far w.heap.size kq) := fun a ha => by have := hf2'.out a ha; have := s2.out.lt; omega
     clear hp3 hon hf1 hf2 hg3 hr3
     obtain ⟨W4, hW4⟩ : ∃ W4, w3.alloc (.cells #[.int .i64 k3, .slice rq rn rc, .slice kq kn kc] 55) = W4 := ⟨_, rfl⟩
     have hb4 := Lib.hid (one_box (xs := [.int .i64 k3, .slice rq rn rc, .slice kq kn kc]) hW4)
     have hs4 := sizeCont (.int .i64 k3) (.slice rq rn rc) (.slice kq kn kc)
     have s4 := Lib.hid (s3'.out.below hb4.out.1)
     have gr4 := Lib.hid (Gr.then gr3.out hb4.out.1)
     have r4 := Lib.hid (r3.out.below hb4.out.1)
     have hon4 := Lib.hid (hon3.out.below hb4.out.1 (Nat.le_refl _))
     by_cases hz8 : e3 = 0
     · subst hz8
       go_wp2_with (first
        | (with_reducible refine wpList_load_at rfl 55 (.tmp 8) rfl Tryz.underlying55 rfl hs4 rfl hb4.out.2.1.all ?_))
       clear hW4
       refine (check_any k3 rq rn rc kq kn kc c W4 hon4.out).mono ?_
       rintro e w5 ⟨x5, rfl, hx5, hb5⟩
       have s5 := Lib.hid (s4.out.below hb5)
       have gr5 := Lib.hid (Gr.then gr4.out hb5)
       have r5 := Lib.hid (r4.out.below hb5)
       have hon5 := Lib.hid (hon4.out.below hb5 (Nat.le_refl _))
       have b5 := Lib.hid (hb4.out.2.1.below hb5 (Nat.le_refl _))
       clear hb5
       rcases hx5 with ⟨rfl, hgood⟩ | ⟨rfl, hbad⟩
       · have hgood' := Lib.hid hgood
         clear hgood
         have hpp : Hid (ContentIs s c 0 s3) := by
          show ContentIs _ _ _ _
          unfold ContentIs
          rw [her'.out, hz'.out, if_neg (by decide), if_neg (by decide), hpart.out, hp3'.out, if_neg (by simp)]
          exact .inl ⟨hgood'.out, rfl, rfl, rfl⟩
         go_wp2_with (first
          | (with_reducible refine wpList_load_at rfl 55 (.tmp 8) rfl Tryz.underlying55 rfl hs4 rfl b5.out.all ?_)
          | ((with_reducible refine wpList_store_at rfl 55 (.tmp 2) (.tmp 44) rfl (o := 0) (vs := [.int .i64 k3, .slice rq rn rc, .slice kq kn kc]) rfl rfl s5.out hs4 (Nat.le_refl _) (cont_one _ _ _ _ _ _ _) ?_)
             intro w9 h9 hg9
             have q9 := Lib.hid h9
             have hg9' := Lib.hid hg9
             clear h9 hg9))
         have s9 : RowV 55 w9 (w.heap.size + 1) [.int .i64 k3, .slice rq rn rc, .slice kq kn kc] := q9.out
         have m0 := s9.cell 0
         have m1 := s9.cell 1
         have m2 := s9.cell 2
         simp only [List.getElem?_cons_zero, List.getElem?_cons_succ] at m0 m1 m2
         refine bodyPost_ret (v := .tuple #[.agg #[.int .i64 k3, .slice rq rn rc, .slice kq kn kc], .int .i64 0]) (by simp [results, Tryz.results149, go_sem, m0, m1, m2]) rfl ?_
         exact ⟨c, 0, s3, k3, rq, rn, rc, kq, kn, kc, hpp.out, rfl, hon5.out.gr hg9'.out hfa1.out hfa2.out, hff1.out, hff2.out, Gr.own gr5.out hg9'.out (by omega), r5.out.keep hg9'.out (by omega) (fun e => by have := hsrc.out _ e; omega)⟩
       · have hbad' := Lib.hid hbad
         clear hbad
         have hpp : Hid (ContentIs s zeroC 161 s3) := by
          show ContentIs _ _ _ _
          unfold ContentIs
          rw [her'.out, hz'.out, if_neg (by decide), if_neg (by decide), hpart.out, hp3'.out, if_neg (by simp)]
          exact .inr ⟨hbad'.out, rfl, rfl, rfl⟩
         go_wp2_with (first
          | ((with_reducible refine wpList_store_at rfl 55 (.tmp 2) (.tmp 43) rfl (o := 0) (vs := [.int .i64 0, .slice none 0 0, .slice none 0 0]) rfl rfl s5.out hz1 (Nat.le_refl _) (cont_one _ _ _ _ _ _ _) ?_)
             intro w9 h9 hg9
             have q9 := Lib.hid h9
             have hg9' := Lib.hid hg9
             clear h9 hg9))
         have s9 : RowV 55 w9 (w.heap.size + 1) [.int .i64 0, .slice none 0 0, .slice none 0 0] := q9.out
         have m0 := s9.cell 0
         have m1 := s9.cell 1
         have m2 := s9.cell 2
         simp only [List.getElem?_cons_zero, List.getElem?_cons_succ] at m0 m1 m2
         refine bodyPost_ret (v := .tuple #[.agg #[.int .i64 0, .slice none 0 0, .slice none 0 0], .int .i64 161]) (by simp [results, Tryz.results149, go_sem, m0, m1, m2]) rfl ?_
         exact ⟨zeroC, 161, _, 0, none, 0, 0, none, 0, 0, hpp.out, rfl, ⟨rfl, RowsOn.none_ _, KidsOn.none_ _⟩, Far.none_ _, Far.none_ _, Gr.own gr5.out hg9'.out (by omega), r5.out.keep hg9'.out (by omega) (fun e => by have := hsrc.out _ e; omega)⟩
     · have hpp : Hid (ContentIs s zeroC e3 s3) := by
        show ContentIs _ _ _ _
        unfold ContentIs
        rw [her'.out, hz'.out, if_neg (by decide), if_neg (by decide), hpart.out, hp3'.out, if_pos hz8]
        exact ⟨rfl, rfl, rfl⟩
       go_wp2_with (first
        | ((with_reducible refine wpList_store_at rfl 55 (.tmp 2) (.tmp 38) rfl (o := 0) (vs := [.int .i64 0, .slice none 0 0, .slice none 0 0]) rfl rfl s4.out hz1 (Nat.le_refl _) (cont_one _ _ _ _ _ _ _) ?_)
           intro w9 h9 hg9
           have q9 := Lib.hid h9
           have hg9' := Lib.hid hg9
           clear h9 hg9))
       have s9 : RowV 55 w9 (w.heap.size + 1) [.int .i64 0, .slice none 0 0, .slice none 0 0] := q9.out
       have m0 := s9.cell 0
       have m1 := s9.cell 1
       have m2 := s9.cell 2
       simp only [List.getElem?_cons_zero, List.getElem?_cons_succ] at m0 m1 m2
       refine bodyPost_ret (v := .tuple #[.agg #[.int .i64 0, .slice none 0 0, .slice none 0 0], .int .i64 e3]) (by simp [results, Tryz.results149, go_sem, m0, m1, m2]) rfl ?_
       exact ⟨zeroC, e3, _, 0, none, 0, 0, none, 0, 0, hpp.out, rfl, ⟨rfl, RowsOn.none_ _, KidsOn.none_ _⟩, Far.none_ _, Far.none_ _, Gr.own gr4.out hg9'.out (by omega), r4.out.keep hg9'.out (by omega) (fun e => by have := hsrc.out _ e; omega)⟩
   · have hpart : Hid (partP s = leafP (s.next 1)) := by show partP s = _; unfold partP; rw [hz'.out]; rfl
     have hkf : kindsF g 1 = some (.func (.func 161) #[.agg #[.pointer (some ⟨g, 0, none⟩)]] #[]) := rfl
     go_wp2_with (first
      | (with_reducible refine wpList_lookup_ok_i rfl (.tmp 22) (.tmp 24) 198 rfl Tryz.underlying198 Tryz.underlying3 hzf rfl rfl hmap'.out ?_))
     refine (leaf_rd g d (s.next 1) w2 r2.out).mono ?_
     rintro e w3 ⟨c, e3, s3, k3, rq, rn, rc, kq, kn, kc, hp3, rfl, hon, hf1, hf2, hg3, hr3⟩
     have hp3' := Lib.hid hp3
     have hon3 := Lib.hid hon
     have hf1' := Lib.hid hf1
     have hf2' := Lib.hid hf2
     have b3 := Lib.hid (b2.out.gr hg3 (by omega))
     have s3' := Lib.hid (s2.out.gr hg3 (by omega))
     have gr3 := Lib.hid (gr2.out.trans hg3)
     have r3 := Lib.hid hr3
     have hlow3 : w.heap.size + 2 ≤ w3.heap.size := by have h1 := s3'.out.lt; omega
     have hfa1 : Hid (∀ a, rq = some a → a.block ≠ w.heap.size + 1) := fun a ha => by have := hf1'.out a ha; have := s2.out.lt; omega
     have hfa2 : Hid (∀ a, kq = some a → a.block ≠ w.heap.size + 1) := fun a ha => by have := hf2'.out a ha; have := s2.out.lt; omega
     have hff1 : Hid (Far w.heap.size rq) := fun a ha => by have := hf1'.out a ha; have := s2.out.lt; omega
     have hff2 : Hid (Far w.heap.size kq) := fun a ha => by have := hf2'.out a ha; have := s2.out.lt; omega
     clear hp3 hon hf1 hf2 hg3 hr3
     obtain ⟨W4, hW4⟩ : ∃ W4, w3.alloc (.cells #[.int .i64 k3, .slice rq rn rc, .slice kq kn kc] 55) = W4 := ⟨_, rfl⟩
     have hb4 := Lib.hid (one_box (xs := [.int .i64 k3, .slice rq rn rc, .slice kq kn kc]) hW4)
     have hs4 := sizeCont (.int .i64 k3) (.slice rq rn rc) (.slice kq kn kc)
     have s4 := Lib.hid (s3'.out.below hb4.out.1)
     have gr4 := Lib.hid (Gr.then gr3.out hb4.out.1)
     have r4 := Lib.hid (r3.out.below hb4.out.1)
     have hon4 := Lib.hid (hon3.out.below hb4.out.1 (Nat.le_refl _))
     by_cases hz8 : e3 = 0
     · subst hz8
       go_wp2_with (first
        | (with_reducible refine wpList_load_at rfl 55 (.tmp 8) rfl Tryz.underlying55 rfl hs4 rfl hb4.out.2.1.all ?_))
       clear hW4
       refine (check_any k3 rq rn rc kq kn kc c W4 hon4.out).mono ?_
       rintro e w5 ⟨x5, rfl, hx5, hb5⟩
       have s5 := Lib.hid (s4.out.below hb5)
       have gr5 := Lib.hid (Gr.then gr4.out hb5)
       have r5 := Lib.hid (r4.out.below hb5)
       have hon5 := Lib.hid (hon4.out.below hb5 (Nat.le_refl _))
       have b5 := Lib.hid (hb4.out.2.1.below hb5 (Nat.le_refl _))
       clear hb5
       rcases hx5 with ⟨rfl, hgood⟩ | ⟨rfl, hbad⟩
       · have hgood' := Lib.hid hgood
         clear hgood
         have hpp : Hid (ContentIs s c 0 s3) := by
          show ContentIs _ _ _ _
          unfold ContentIs
          rw [her'.out, hz'.out, if_neg (by decide), if_neg (by decide), hpart.out, hp3'.out, if_neg (by simp)]
          exact .inl ⟨hgood'.out, rfl, rfl, rfl⟩
         go_wp2_with (first
          | (with_reducible refine wpList_load_at rfl 55 (.tmp 8) rfl Tryz.underlying55 rfl hs4 rfl b5.out.all ?_)
          | ((with_reducible refine wpList_store_at rfl 55 (.tmp 2) (.tmp 44) rfl (o := 0) (vs := [.int .i64 k3, .slice rq rn rc, .slice kq kn kc]) rfl rfl s5.out hs4 (Nat.le_refl _) (cont_one _ _ _ _ _ _ _) ?_)
             intro w9 h9 hg9
             have q9 := Lib.hid h9
             have hg9' := Lib.hid hg9
             clear h9 hg9))
         have s9 : RowV 55 w9 (w.heap.size + 1) [.int .i64 k3, .slice rq rn rc, .slice kq kn kc] := q9.out
         have m0 := s9.cell 0
         have m1 := s9.cell 1
         have m2 := s9.cell 2
         simp only [List.getElem?_cons_zero, List.getElem?_cons_succ] at m0 m1 m2
         refine bodyPost_ret (v := .tuple #[.agg #[.int .i64 k3, .slice rq rn rc, .slice kq kn kc], .int .i64 0]) (by simp [results, Tryz.results149, go_sem, m0, m1, m2]) rfl ?_
         exact ⟨c, 0, s3, k3, rq, rn, rc, kq, kn, kc, hpp.out, rfl, hon5.out.gr hg9'.out hfa1.out hfa2.out, hff1.out, hff2.out, Gr.own gr5.out hg9'.out (by omega), r5.out.keep hg9'.out (by omega) (fun e => by have := hsrc.out _ e; omega)⟩
       · have hbad' := Lib.hid hbad
         clear hbad
         have hpp : Hid (ContentIs s zeroC 161 s3) := by
          show ContentIs _ _ _ _
          unfold ContentIs
          rw [her'.out, hz'.out, if_neg (by decide), if_neg (by decide), hpart.out, hp3'.out, if_neg (by simp)]
          exact .inr ⟨hbad'.out, rfl, rfl, rfl⟩
         go_wp2_with (first
          | ((with_reducible refine wpList_store_at rfl 55 (.tmp 2) (.tmp 43) rfl (o := 0) (vs := [.int .i64 0, .slice none 0 0, .slice none 0 0]) rfl rfl s5.out hz1 (Nat.le_refl _) (cont_one _ _ _ _ _ _ _) ?_)
             intro w9 h9 hg9
             have q9 := Lib.hid h9
             have hg9' := Lib.hid hg9
             clear h9 hg9))
         have s9 : RowV 55 w9 (w.heap.size + 1) [.int .i64 0, .slice none 0 0, .slice none 0 0] := q9.out
         have m0 := s9.cell 0
         have m1 := s9.cell 1
         have m2 := s9.cell 2
         simp only [List.getElem?_cons_zero, List.getElem?_cons_succ] at m0 m1 m2
         refine bodyPost_ret (v := .tuple #[.agg #[.int .i64 0, .slice none 0 0, .slice none 0 0], .int .i64 161]) (by simp [results, Tryz.results149, go_sem, m0, m1, m2]) rfl ?_
         exact ⟨zeroC, 161, _, 0, none, 0, 0, none, 0, 0, hpp.out, rfl, ⟨rfl, RowsOn.none_ _, KidsOn.none_ _⟩, Far.none_ _, Far.none_ _, Gr.own gr5.out hg9'.out (by omega), r5.out.keep hg9'.out (by omega) (fun e => by have := hsrc.out _ e; omega)⟩
     · have hpp : Hid (ContentIs s zeroC e3 s3) := by
        show ContentIs _ _ _ _
        unfold ContentIs
        rw [her'.out, hz'.out, if_neg (by decide), if_neg (by decide), hpart.out, hp3'.out, if_pos hz8]
        exact ⟨rfl, rfl, rfl⟩
       go_wp2_with (first
        | ((with_reducible refine wpList_store_at rfl 55 (.tmp 2) (.tmp 38) rfl (o := 0) (vs := [.int .i64 0, .slice none 0 0, .slice none 0 0]) rfl rfl s4.out hz1 (Nat.le_refl _) (cont_one _ _ _ _ _ _ _) ?_)
           intro w9 h9 hg9
           have q9 := Lib.hid h9
           have hg9' := Lib.hid hg9
           clear h9 hg9))
       have s9 : RowV 55 w9 (w.heap.size + 1) [.int .i64 0, .slice none 0 0, .slice none 0 0] := q9.out
       have m0 := s9.cell 0
       have m1 := s9.cell 1
       have m2 := s9.cell 2
       simp only [List.getElem?_cons_zero, List.getElem?_cons_succ] at m0 m1 m2
       refine bodyPost_ret (v := .tuple #[.agg #[.int .i64 0, .slice none 0 0, .slice none 0 0], .int .i64 e3]) (by simp [results, Tryz.results149, go_sem, m0, m1, m2]) rfl ?_
       exact ⟨zeroC, e3, _, 0, none, 0, 0, none, 0, 0, hpp.out, rfl, ⟨rfl, RowsOn.none_ _, KidsOn.none_ _⟩, Far.none_ _, Far.none_ _, Gr.own gr4.out hg9'.out (by omega), r4.out.keep hg9'.out (by omega) (fun e => by have := hsrc.out _ e; omega)⟩
   · have hpart : Hid (partP s = innerP (s.next 1)) := by show partP s = _; unfold partP; rw [hz'.out]; rfl
     have hkf : kindsF g 2 = some (.func (.func 162) #[.agg #[.pointer (some ⟨g, 0, none⟩)]] #[]) := rfl
     go_wp2_with (first
      | (with_reducible refine wpList_lookup_ok_i rfl (.tmp 22) (.tmp 24) 198 rfl Tryz.underlying198 Tryz.underlying3 hzf rfl rfl hmap'.out ?_))
     refine (inner_rd g d (s.next 1) w2 r2.out).mono ?_
     rintro e w3 ⟨c, e3, s3, k3, rq, rn, rc, kq, kn, kc, hp3, rfl, hon, hf1, hf2, hg3, hr3⟩
     have hp3' := Lib.hid hp3
     have hon3 := Lib.hid hon
     have hf1' := Lib.hid hf1
     have hf2' := Lib.hid hf2
     have b3 := Lib.hid (b2.out.gr hg3 (by omega))
     have s3' := Lib.hid (s2.out.gr hg3 (by omega))
     have gr3 := Lib.hid (gr2.out.trans hg3)
     have r3 := Lib.hid hr3
     have hlow3 : w.heap.size + 2 ≤ w3.heap.size := by have h1 := s3'.out.lt; omega
     have hfa1 : Hid (∀ a, rq = some a → a.block ≠ w.heap.size + 1) := fun a ha => by have := hf1'.out a ha; have := s2.out.lt; omega
     have hfa2 : Hid (∀ a, kq = some a → a.block ≠ w.heap.size + 1) := fun a ha => by have := hf2'.out a ha; have := s2.out.lt; omega
     have hff1 : Hid (Far w.heap.size rq) := fun a ha => by have := hf1'.out a ha; have := s2.out.lt; omega
     have hff2 : Hid (Far w.heap.size kq) := fun a ha => by have := hf2'.out a ha; have := s2.out.lt; omega
     clear hp3 hon hf1 hf2 hg3 hr3
     obtain ⟨W4, hW4⟩ : ∃ W4, w3.alloc (.cells #[.int .i64 k3, .slice rq rn rc, .slice kq kn kc] 55) = W4 := ⟨_, rfl⟩
     have hb4 := Lib.hid (one_box (xs := [.int .i64 k3, .slice rq rn rc, .slice kq kn kc]) hW4)
     have hs4 := sizeCont (.int .i64 k3) (.slice rq rn rc) (.slice kq kn kc)
     have s4 := Lib.hid (s3'.out.below hb4.out.1)
     have gr4 := Lib.hid (Gr.then gr3.out hb4.out.1)
     have r4 := Lib.hid (r3.out.below hb4.out.1)
     have hon4 := Lib.hid (hon3.out.below hb4.out.1 (Nat.le_refl _))
     by_cases hz8 : e3 = 0
     · subst hz8
       go_wp2_with (first
        | (with_reducible refine wpList_load_at rfl 55 (.tmp 8) rfl Tryz.underlying55 rfl hs4 rfl hb4.out.2.1.all ?_))
       clear hW4
       refine (check_any k3 rq rn rc kq kn kc c W4 hon4.out).mono ?_
       rintro e w5 ⟨x5, rfl, hx5, hb5⟩
       have s5 := Lib.hid (s4.out.below hb5)
       have gr5 := Lib.hid (Gr.then gr4.out hb5)
       have r5 := Lib.hid (r4.out.below hb5)
       have hon5 := Lib.hid (hon4.out.below hb5 (Nat.le_refl _))
       have b5 := Lib.hid (hb4.out.2.1.below hb5 (Nat.le_refl _))
       clear hb5
       rcases hx5 with ⟨rfl, hgood⟩ | ⟨rfl, hbad⟩
       · have hgood' := Lib.hid hgood
         clear hgood
         have hpp : Hid (ContentIs s c 0 s3) := by
          show ContentIs _ _ _ _
          unfold ContentIs
          rw [her'.out, hz'.out, if_neg (by decide), if_neg (by decide), hpart.out, hp3'.out, if_neg (by simp)]
          exact .inl ⟨hgood'.out, rfl, rfl, rfl⟩
         go_wp2_with (first
          | (with_reducible refine wpList_load_at rfl 55 (.tmp 8) rfl Tryz.underlying55 rfl hs4 rfl b5.out.all ?_)
          | ((with_reducible refine wpList_store_at rfl 55 (.tmp 2) (.tmp 44) rfl (o := 0) (vs := [.int .i64 k3, .slice rq rn rc, .slice kq kn kc]) rfl rfl s5.out hs4 (Nat.le_refl _) (cont_one _ _ _ _ _ _ _) ?_)
             intro w9 h9 hg9
             have q9 := Lib.hid h9
             have hg9' := Lib.hid hg9
             clear h9 hg9))
         have s9 : RowV 55 w9 (w.heap.size + 1) [.int .i64 k3, .slice rq rn rc, .slice kq kn kc] := q9.out
         have m0 := s9.cell 0
         have m1 := s9.cell 1
         have m2 := s9.cell 2
         simp only [List.getElem?_cons_zero, List.getElem?_cons_succ] at m0 m1 m2
         refine bodyPost_ret (v := .tuple #[.agg #[.int .i64 k3, .slice rq rn rc, .slice kq kn kc], .int .i64 0]) (by simp [results, Tryz.results149, go_sem, m0, m1, m2]) rfl ?_
         exact ⟨c, 0, s3, k3, rq, rn, rc, kq, kn, kc, hpp.out, rfl, hon5.out.gr hg9'.out hfa1.out hfa2.out, hff1.out, hff2.out, Gr.own gr5.out hg9'.out (by omega), r5.out.keep hg9'.out (by omega) (fun e => by have := hsrc.out _ e; omega)⟩
       · have hbad' := Lib.hid hbad
         clear hbad
         have hpp : Hid (ContentIs s zeroC 161 s3) := by
          show ContentIs _ _ _ _
          unfold ContentIs
          rw [her'.out, hz'.out, if_neg (by decide), if_neg (by decide), hpart.out, hp3'.out, if_neg (by simp)]
          exact .inr ⟨hbad'.out, rfl, rfl, rfl⟩
         go_wp2_with (first
          | ((with_reducible refine wpList_store_at rfl 55 (.tmp 2) (.tmp 43) rfl (o := 0) (vs := [.int .i64 0, .slice none 0 0, .slice none 0 0]) rfl rfl s5.out hz1 (Nat.le_refl _) (cont_one _ _ _ _ _ _ _) ?_)
             intro w9 h9 hg9
             have q9 := Lib.hid h9
             have hg9' := Lib.hid hg9
             clear h9 hg9))
         have s9 : RowV 55 w9 (w.heap.size + 1) [.int .i64 0, .slice none 0 0, .slice none 0 0] := q9.out
         have m0 := s9.cell 0
         have m1 := s9.cell 1
         have m2 := s9.cell 2
         simp only [List.getElem?_cons_zero, List.getElem?_cons_succ] at m0 m1 m2
         refine bodyPost_ret (v := .tuple #[.agg #[.int .i64 0, .slice none 0 0, .slice none 0 0], .int .i64 161]) (by simp [results, Tryz.results149, go_sem, m0, m1, m2]) rfl ?_
         exact ⟨zeroC, 161, _, 0, none, 0, 0, none, 0, 0, hpp.out, rfl, ⟨rfl, RowsOn.none_ _, KidsOn.none_ _⟩, Far.none_ _, Far.none_ _, Gr.own gr5.out hg9'.out (by omega), r5.out.keep hg9'.out (by omega) (fun e => by have := hsrc.out _ e; omega)⟩
     · have hpp : Hid (ContentIs s zeroC e3 s3) := by
        show ContentIs _ _ _ _
        unfold ContentIs
        rw [her'.out, hz'.out, if_neg (by decide), if_neg (by decide), hpart.out, hp3'.out, if_pos hz8]
        exact ⟨rfl, rfl, rfl⟩
       go_wp2_with (first
        | ((with_reducible refine wpList_store_at rfl 55 (.tmp 2) (.tmp 38) rfl (o := 0) (vs := [.int .i64 0, .slice none 0 0, .slice none 0 0]) rfl rfl s4.out hz1 (Nat.le_refl _) (cont_one _ _ _ _ _ _ _) ?_)
           intro w9 h9 hg9
           have q9 := Lib.hid h9
           have hg9' := Lib.hid hg9
           clear h9 hg9))
       have s9 : RowV 55 w9 (w.heap.size + 1) [.int .i64 0, .slice none 0 0, .slice none 0 0] := q9.out
       have m0 := s9.cell 0
       have m1 := s9.cell 1
       have m2 := s9.cell 2
       simp only [List.getElem?_cons_zero, List.getElem?_cons_succ] at m0 m1 m2
       refine bodyPost_ret (v := .tuple #[.agg #[.int .i64 0, .slice none 0 0, .slice none 0 0], .int .i64 e3]) (by simp [results, Tryz.results149, go_sem, m0, m1, m2]) rfl ?_
       exact ⟨zeroC, e3, _, 0, none, 0, 0, none, 0, 0, hpp.out, rfl, ⟨rfl, RowsOn.none_ _, KidsOn.none_ _⟩, Far.none_ _, Far.none_ _, Gr.own gr4.out hg9'.out (by omega), r4.out.keep hg9'.out (by omega) (fun e => by have := hsrc.out _ e; omega)⟩
   · have hkf : kindsF g z = none := by unfold kindsF; rw [if_neg (by omega), if_neg (by omega), if_neg (by omega)]
     have hpp : Hid (ContentIs s zeroC 161 (s.next 1)) := by
      show ContentIs _ _ _ _
      unfold ContentIs
      rw [her'.out, hz'.out, if_neg (by decide), if_pos h2z]
      exact ⟨rfl, rfl, rfl⟩
     go_wp2_with (first
      | (with_reducible refine wpList_lookup_ok_i rfl (.tmp 22) (.tmp 24) 198 rfl Tryz.underlying198 Tryz.underlying3 hzf rfl rfl hmap'.out ?_)
      | ((with_reducible refine wpList_store_at rfl 55 (.tmp 2) (.tmp 30) rfl (o := 0) (vs := [.int .i64 0, .slice none 0 0, .slice none 0 0]) rfl rfl s2.out hz1 (Nat.le_refl _) (cont_one _ _ _ _ _ _ _) ?_)
         intro w9 h9 hg9
         have q9 := Lib.hid h9
         have hg9' := Lib.hid hg9
         clear h9 hg9))
     have s9 : RowV 55 w9 (w.heap.size + 1) [.int .i64 0, .slice none 0 0, .slice none 0 0] := q9.out
     have m0 := s9.cell 0
     have m1 := s9.cell 1
     have m2 := s9.cell 2
     simp only [List.getElem?_cons_zero, List.getElem?_cons_succ] at m0 m1 m2
     refine bodyPost_ret (v := .tuple #[.agg #[.int .i64 0, .slice none 0 0, .slice none 0 0], .int .i64 161]) (by simp [results, Tryz.results149, go_sem, m0, m1, m2]) rfl ?_
     exact ⟨zeroC, 161, _, 0, none, 0, 0, none, 0, 0, hpp.out, rfl, ⟨rfl, RowsOn.none_ _, KidsOn.none_ _⟩, Far.none_ _, Far.none_ _, Gr.own gr2.out hg9'.out (by omega), r2.out.keep hg9'.out (by omega) (fun e => by have := hsrc.out _ e; omega)⟩
 · have hpp : Hid (ContentIs s zeroC er (s.next 1)) := by
    show ContentIs _ _ _ _
    unfold ContentIs
    rw [her'.out, if_pos hz7]
    exact ⟨rfl, rfl, rfl⟩
   go_wp2_with (first
    | ((with_reducible refine wpList_store_at rfl 55 (.tmp 2) (.tmp 18) rfl (o := 0) (vs := [.int .i64 0, .slice none 0 0, .slice none 0 0]) rfl rfl s1.out hz1 (Nat.le_refl _) (cont_one _ _ _ _ _ _ _) ?_)
       intro w9 h9 hg9
       have q9 := Lib.hid h9
       have hg9' := Lib.hid hg9
       clear h9 hg9))
   have s9 : RowV 55 w9 (w.heap.size + 1) [.int .i64 0, .slice none 0 0, .slice none 0 0] := q9.out
   have m0 := s9.cell 0
   have m1 := s9.cell 1
   have m2 := s9.cell 2
   simp only [List.getElem?_cons_zero, List.getElem?_cons_succ] at m0 m1 m2
   refine bodyPost_ret (v := .tuple #[.agg #[.int .i64 0, .slice none 0 0, .slice none 0 0], .int .i64 er]) (by simp [results, Tryz.results149, go_sem, m0, m1, m2]) rfl ?_
   exact ⟨zeroC, er, _, 0, none, 0, 0, none, 0, 0, hpp.out, rfl, ⟨rfl, RowsOn.none_ _, KidsOn.none_ _⟩, Far.none_ _, Far.none_ _, Gr.own gr1.out hg9'.out (by omega), r1.out.keep hg9'.out (by omega) (fun e => by have := hsrc.out _ e; omega)⟩
end Go.Proofs.YtocekhckmpkbmaaGreat
