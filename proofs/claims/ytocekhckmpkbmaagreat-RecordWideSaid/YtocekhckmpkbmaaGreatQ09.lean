/- take of codec, at contents and at rows; TakeContent and TakeRow. -/
import Derived.Test.YtocekhckmpkbmaaGreatQ08
namespace Go.Proofs.YtocekhckmpkbmaaGreat
open Go.RowKit
set_option maxRecDepth 100000 in
theorem slice_bytes (p : Option Addr) (n c k : Nat) (hk : k ≤ n) (hn : n ≤ c) (u : World) :
 (Instr.slice 36 (.slice p n c) none (some (.int .i64 (k : Int))) none).run Tryz.prog u = .ok (.slice p k c) u := by
 have h := run_slice_h (P := Tryz.prog) u 36 p n c (by kernel_rfl) .i64 (k : Int) (by omega) (by omega)
 rw [h, show (sizeOf (Tryz.prog.elem 36)).run Tryz.prog u = .ok 1 u by kernel_rfl]
 simp only [Result.andThen, sliced, Int.toNat_natCast, Nat.zero_mul, Nat.sub_zero]
 congr 2
 split
 · rfl
 · cases p <;> simp [add_zero]
theorem RdrS.short {w : World} {g : Nat} {d : Option Nat} {s : St} (r : RdrS w g d s) : s.l.length ≤ 140737488355328 := by
 obtain ⟨p, n, c, _, hv, _, hn, _⟩ := r
 rw [← holds_len hv]; exact hn
def TakeC (b : List UInt8) (c : ContD) (n er : Int) : Prop :=
 ∃ c1 er1 s', ContentIs ⟨b.take 82, 0⟩ c1 er1 s' ∧ ((er1 ≠ 0 ∧ c = zeroC ∧ n = 0 ∧ er = er1) ∨ (er1 = 0 ∧ c = c1 ∧ n = ((b.take 82).length : Int) - s'.l.length ∧ er = 0))
def TakeR (b : List UInt8) (c : RowD) (n er : Int) : Prop :=
 ∃ c1 er1 s', rowP ⟨b.take 20, 0⟩ = (c1, er1, s') ∧ ((er1 ≠ 0 ∧ c = zeroR ∧ n = 0 ∧ er = er1) ∨ (er1 = 0 ∧ c = c1 ∧ n = ((b.take 20).length : Int) - s'.l.length ∧ er = 0))
def TkC (b : List UInt8) (w : World) (e : Ending) (w' : World) : Prop :=
 ∃ c n er k rq rn rc kq kn kc, TakeC b c n er ∧ e = .returned (.tuple #[.agg #[.int .i64 k, .slice rq rn rc, .slice kq kn kc], .int .i64 n, .int .i64 er]) ∧ ContOn w' k rq rn rc kq kn kc c ∧ Far w.heap.size rq ∧ Far w.heap.size kq ∧ Below w.heap.size w w'
def TkR (b : List UInt8) (w : World) (e : Ending) (w' : World) : Prop :=
 ∃ r n er, TakeR b r n er ∧ e = .returned (.tuple #[rowV r, .int .i64 n, .int .i64 er]) ∧ Below w.heap.size w w'
theorem below_refl_of (w : World) : Below w.heap.size w w := Below.refl _ _
set_option maxRecDepth 100000 in
set_option maxHeartbeats 4000000 in
theorem takeC_any (p : Option Addr) (n c : Nat) (b : List UInt8) (w : World) (hv : Lib.HoldsBytes w (.slice p n c) b) (hnc : n ≤ c) (hc : n ≤ 140737488355328) :
 Calls Tryz.prog 148 #[.slice p n c, .int .i64 82, .func (.func 149) #[] #[]] w (TkC b w) := by
 obtain ⟨W, hW⟩ : ∃ W, (w.alloc (.cells #[.int .i64 0, .slice none 0 0, .slice none 0 0] 55)).alloc (.cells #[.int .i64 0, .slice none 0 0, .slice none 0 0] 55) = W := ⟨_, rfl⟩
 have hbx := Lib.hid (two_boxes (xs := [.int .i64 0, .slice none 0 0, .slice none 0 0]) (ys := [.int .i64 0, .slice none 0 0, .slice none 0 0]) hW)
 have hres : Hid (RowV 55 W w.heap.size [.int .i64 0, .slice none 0 0, .slice none 0 0]) := by
  have h0 := (RowV.made (T := 55) w [.int .i64 0, .slice none 0 0, .slice none 0 0]).below ((Below.refl _ _).alloc (Nat.le_refl _) (.cells #[.int .i64 0, .slice none 0 0, .slice none 0 0] 55))
  show RowV _ _ _ _
  rw [← hW]; exact h0
 have hz1 := sizeCont (.int .i64 0) (.slice none 0 0) (.slice none 0 0)
 have z1 : ∀ v ∈ ([.int .i64 0, .slice none 0 0, .slice none 0 0] : List Value), v.oneCell' = true := cont_one 0 none 0 0 none 0 0
 have hlen := holds_len hv
 obtain ⟨m, hm⟩ : ∃ m : Nat, m = min n 82 := ⟨_, rfl⟩
 have hmn : min (n : Int) 82 = (m : Int) := by omega
 have hml : m ≤ n := by omega
 have hsl := fun u => slice_bytes p n c m hml hnc u
 have hvm : Hid (Lib.HoldsBytes W (.slice p m c) (b.take m)) := by
  have h := holds_take hv (below_refl_of w) hml
  exact holds_below h hbx.out.1 (Nat.le_refl _)
 have hbm : Hid (b.take m = b.take 82) := by
  show b.take m = _
  rw [hm, hlen]
  rcases Nat.le_total b.length 82 with h | h
  · rw [Nat.min_eq_left h, List.take_length, List.take_of_length_le h]
  · rw [Nat.min_eq_right h]
 have hlenb : Hid (((b.take 82).length : Int) = m) := by show _ = _; rw [← hbm.out, List.length_take]; omega
 have hm1 : m ≤ 82 := by omega
 clear hv hlen hm
 go_enter Tryz.func148, Tryz.ntmps148
 go_wp2_with fail
 clear hW
 refine (read_any p m c (b.take m) W hvm.out (by omega)).mono ?_
 rintro e w1 ⟨g, d, rfl, hr1, hg1, hd1, hb1⟩
 rw [hbm.out] at hr1
 have hr1' : Hid (RdrS w1 g d ⟨b.take 82, 0⟩) := hr1
 have hg1' : W.heap.size ≤ g := hg1
 have hd1' := Lib.hid hd1
 have hb1' := Lib.hid hb1
 clear hr1 hg1 hd1 hb1 hsl hmn
 obtain ⟨W2, hW2⟩ : ∃ W2, w1.alloc (.cells #[.pointer (some ⟨g, 0, none⟩)] 190) = W2 := ⟨_, rfl⟩
 have hb2 := Lib.hid (one_box (xs := [.pointer (some ⟨g, 0, none⟩)]) hW2)
 have r2 := Lib.hid (hr1'.out.below hb2.out.1)
 have hB2 := Lib.hid (hb1'.out.trans (hb2.out.1.mono hb1'.out.size))
 have hs1 := sizeRd (.pointer (some ⟨g, 0, none⟩))
 have c0 := hb2.out.2.1.cell 0 rfl
 have hgw1 : g < w1.heap.size := hr1'.out.lt
 have hlen1 : Hid ((⟨b.take 82, 0⟩ : St).l.length = m) := by show (b.take 82).length = m; have := hlenb.out; omega
 go_wp2_with fail
 clear hW2
 refine (rdLeft g d ⟨b.take 82, 0⟩ W2 r2.out).mono ?_
 rintro e w2' ⟨rfl, rfl⟩
 rw [hlen1.out]
 clear c0
 go_wp2_with (first
  | (with_reducible refine wpList_load_at rfl 190 (.tmp 10) rfl Tryz.underlying190 rfl hs1 rfl hb2.out.2.1.all ?_))
 refine (content_rd g d ⟨b.take 82, 0⟩ W2 r2.out).mono ?_
 have hlowW : w.heap.size + 2 ≤ W2.heap.size := by have := hbx.out.2.2.2; have := hB2.out.size; omega
 rintro e w3 ⟨c, e3, s3, k3, rq, rn, rc, kq, kn, kc, hp3, rfl, hon, hf1, hf2, hg3, hr3⟩
 have hp3' := Lib.hid hp3
 have hon3 := Lib.hid hon
 have hff1 : Hid (Far w.heap.size rq) := fun a ha => by have := hf1 a ha; have := hbx.out.1.size; have := hlowW; omega
 have hff2 : Hid (Far w.heap.size kq) := fun a ha => by have := hf2 a ha; have := hbx.out.1.size; have := hlowW; omega
 have hfw1 : Hid (Far (w.heap.size + 2) rq) := fun a ha => by have := hf1 a ha; have := hlowW; omega
 have hfw2 : Hid (Far (w.heap.size + 2) kq) := fun a ha => by have := hf2 a ha; have := hlowW; omega
 have s3' := Lib.hid ((hres.out.below hB2.out).gr hg3 (by have := hres.out.lt; omega))
 have z3' := Lib.hid ((hbx.out.2.2.1.below hB2.out (Nat.le_refl _)).gr hg3 (by have := hbx.out.2.2.2; omega))
 have x3' := Lib.hid (hb2.out.2.1.gr hg3 (by omega))
 have hB3 := Lib.hid (Gr.below hg3 (hbx.out.1.trans (hB2.out.mono hbx.out.1.size)) (by have := hbx.out.1.size; omega))
 have r3 := Lib.hid hr3
 have hs3l := hr3.short
 have hlow3 : w.heap.size + 2 ≤ w3.heap.size := by have := hg3.size; omega
 clear hp3 hg3 hr3 hon hf1 hf2
 obtain ⟨W4, hW4⟩ : ∃ W4, w3.alloc (.cells #[.int .i64 k3, .slice rq rn rc, .slice kq kn kc] 55) = W4 := ⟨_, rfl⟩
 have hb4 := Lib.hid (one_box (xs := [.int .i64 k3, .slice rq rn rc, .slice kq kn kc]) hW4)
 have hs4 := sizeCont (.int .i64 k3) (.slice rq rn rc) (.slice kq kn kc)
 have s4 := Lib.hid (s3'.out.below hb4.out.1)
 have z4 := Lib.hid (z3'.out.below hb4.out.1 (Nat.le_refl _))
 have x4 := Lib.hid (x3'.out.below hb4.out.1 (Nat.le_refl _))
 have r4 := Lib.hid (r3.out.below hb4.out.1)
 have hB4 := Lib.hid (hB3.out.trans (hb4.out.1.mono hB3.out.size))
 by_cases hz8 : e3 = 0
 · subst hz8
   go_wp2
   clear hW4
   have hB9 := Lib.hid (hB4.out.trans ((below_drew W4).mono hB4.out.size))
   have hon9 := Lib.hid ((hon3.out.below hb4.out.1 (Nat.le_refl _)).below (below_drew W4) (Nat.le_refl _))
   obtain ⟨S3, hS3⟩ : ∃ S : Nat, s3.l.length = S := ⟨_, rfl⟩
   rw [hS3] at hs3l
   have hwr : IntKind.i64.wrap ((m : Int) - (S3 : Int)) = (m : Int) - S3 := IntWalk.i64_in _ (by omega)
   have hS0 : Hid (Boxed W4.drew w3.heap.size [.int .i64 k3, .slice rq rn rc, .slice kq kn kc] ∧ Boxed W4.drew w1.heap.size [.pointer (some ⟨g, 0, none⟩)] ∧ RdrS W4.drew g d s3) := ⟨hb4.out.2.1.below (below_drew W4) (Nat.le_refl _), x4.out.below (below_drew W4) (Nat.le_refl _), r4.out.below (below_drew W4)⟩
   refine wp_region_held (S := fun u => Boxed u w3.heap.size [.int .i64 k3, .slice rq rn rc, .slice kq kn kc] ∧ Boxed u w1.heap.size [.pointer (some ⟨g, 0, none⟩)] ∧ RdrS u g d s3) (by kernel_rfl) ?_
   change wpAnyH _ _ _ _ _ _ _ _ (World.drew W4)
   refine held_take (i := 0) (dst := some 35) rfl rfl (by kernel_rfl) (by kernel_rfl) (by kernel_rfl) (fun _ _ _ h => h) (y_load_agg 55 (.tmp 12) rfl rfl rfl (fun W hW => run_loadVar_at Tryz.underlying55 rfl hs4 _ hW.1.all)) hS0.out ?_
   go_frame
   refine held_take (i := 1) (dst := some 36) (v := .int .i64 (m : Int)) rfl rfl (by kernel_rfl) (by kernel_rfl) (by kernel_rfl) (fun _ _ _ h => h) (.inl ⟨rfl, fun W hW => by go_simp⟩) hS0.out ?_
   go_frame
   refine held_take (i := 2) (dst := some 37) (v := .pointer (some ⟨w1.heap.size, 0, none⟩)) rfl rfl (by kernel_rfl) (by kernel_rfl) (by kernel_rfl) (fun _ _ _ h => h) (.inl ⟨rfl, fun W hW => by go_simp⟩) hS0.out ?_
   go_frame
   refine held_take (i := 3) (dst := some 38) (v := .pointer (some ⟨g, 0, none⟩)) rfl rfl (by kernel_rfl) (by kernel_rfl) (by kernel_rfl) (fun _ _ _ h => h) (.inl ⟨rfl, fun W hW => by have c0 := hW.2.1.cell 0 rfl; go_simp⟩) hS0.out ?_
   go_frame
   refine held_call (i := 4) (dst := some 39) rfl rfl (by kernel_rfl) rfl (by go_simp) (rdLeft g d s3 _ hS0.out.2.2) ?_
   rintro e u ⟨rfl, rfl⟩
   rw [hS3]
   refine ⟨_, rfl, hS0.out, ?_⟩
   go_frame
   refine held_take (i := 5) (dst := some 40) (v := .int .i64 ((m : Int) - S3)) rfl rfl (by kernel_rfl) (by kernel_rfl) (by kernel_rfl) (fun _ _ _ h => h) (.inl ⟨rfl, fun W hW => by go_simp⟩) hS0.out ?_
   go_frame
   obtain ⟨w9, hst, h9, hg9⟩ := run_storeVar_at (P := Tryz.prog) (ty := 55) (o := 0) (vs := [.int .i64 k3, .slice rq rn rc, .slice kq kn kc]) (s4.out.below (below_drew W4)) hs4 (Nat.le_refl _) (cont_one k3 rq rn rc kq kn kc)
   have hlt4 : w.heap.size < w1.heap.size := by have := hb1'.out.size; have := hbx.out.2.2.2; omega
   have hS9 : Hid (Boxed w9 w3.heap.size [.int .i64 k3, .slice rq rn rc, .slice kq kn kc] ∧ Boxed w9 w1.heap.size [.pointer (some ⟨g, 0, none⟩)] ∧ RdrS w9 g d s3) := ⟨hS0.out.1.gr hg9 (by omega), hS0.out.2.1.gr hg9 (by omega), hS0.out.2.2.keep hg9 (by have := hbx.out.2.2.2; omega) (fun e => by have := hd1'.out _ e; have := hbx.out.2.2.2; omega)⟩
   refine held_skip (i := 6) (dst := none) (w' := w9) rfl rfl (by kernel_rfl) rfl (run_store_op rfl rfl rfl hst) hS9.out ?_
   go_frame
   refine held_take (i := 7) (dst := some 7) (v := .int .i64 ((m : Int) - S3)) rfl rfl (by kernel_rfl) (by kernel_rfl) (by kernel_rfl) (fun _ _ _ h => h) (.inl ⟨rfl, fun W hW => by go_simp⟩) hS9.out ?_
   go_frame
   refine held_take (i := 8) (dst := some 8) (v := .int .i64 0) rfl rfl (by kernel_rfl) (by kernel_rfl) (by kernel_rfl) (fun _ _ _ h => h) (.inl ⟨rfl, fun W hW => by go_simp⟩) hS9.out ?_
   go_frame
   refine wpAnyH_done (by kernel_rfl) ?_ _
   have q9 : Hid (RowV 55 w9 w.heap.size [.int .i64 k3, .slice rq rn rc, .slice kq kn kc]) := h9
   have hg9' := Lib.hid hg9
   have hS3' := Lib.hid hS3
   clear hst h9 hg9 hwr hS3
   have s9 : RowV 55 w9 w.heap.size [.int .i64 k3, .slice rq rn rc, .slice kq kn kc] := q9.out
   have m0 := s9.cell 0
   have m1 := s9.cell 1
   have m2 := s9.cell 2
   simp only [List.getElem?_cons_zero, List.getElem?_cons_succ] at m0 m1 m2
   go_wp2
   refine bodyPost_ret (v := .tuple #[.agg #[.int .i64 k3, .slice rq rn rc, .slice kq kn kc], .int .i64 ((m : Int) - S3), .int .i64 0]) (by simp [results, Tryz.results148, go_sem, m0, m1, m2]) rfl ?_
   rw [← hS3'.out]
   exact ⟨c, _, 0, k3, rq, rn, rc, kq, kn, kc, ⟨c, 0, s3, hp3'.out, .inr ⟨rfl, rfl, by rw [hlenb.out], rfl⟩⟩, rfl, hon9.out.gr hg9'.out (fun a ha => by have := hfw1.out a ha; omega) (fun a ha => by have := hfw2.out a ha; omega), hff1.out, hff2.out, Gr.below hg9'.out hB9.out (Nat.le_refl _)⟩
 · have hB9 := hB4
   go_wp2_with (first
    | (with_reducible refine wpList_load_at rfl 55 (.tmp 9) rfl Tryz.underlying55 rfl hz1 rfl z4.out.all ?_)
    | ((with_reducible refine wpList_store_at rfl 55 (.tmp 6) (.tmp 33) rfl (o := 0) (vs := [.int .i64 0, .slice none 0 0, .slice none 0 0]) rfl rfl s4.out hz1 (Nat.le_refl _) (z1) ?_)
       intro w9 h9 hg9
       have q9 := Lib.hid h9
       have hg9' := Lib.hid hg9
       clear h9 hg9))
   clear hW4
   have s9 : RowV 55 w9 w.heap.size [.int .i64 0, .slice none 0 0, .slice none 0 0] := q9.out
   have m0 := s9.cell 0
   have m1 := s9.cell 1
   have m2 := s9.cell 2
   simp only [List.getElem?_cons_zero, List.getElem?_cons_succ] at m0 m1 m2
   refine bodyPost_ret (v := .tuple #[.agg #[.int .i64 0, .slice none 0 0, .slice none 0 0], .int .i64 0, .int .i64 e3]) (by simp [results, Tryz.results148, go_sem, m0, m1, m2]) rfl ?_
   exact ⟨zeroC, 0, e3, 0, none, 0, 0, none, 0, 0, ⟨c, e3, s3, hp3'.out, .inl ⟨hz8, rfl, rfl, rfl⟩⟩, rfl, ⟨rfl, RowsOn.none_ _, KidsOn.none_ _⟩, Far.none_ _, Far.none_ _, Gr.below hg9'.out hB9.out (Nat.le_refl _)⟩
set_option maxRecDepth 100000 in
set_option maxHeartbeats 4000000 in
theorem takeR_any (p : Option Addr) (n c : Nat) (b : List UInt8) (w : World) (hv : Lib.HoldsBytes w (.slice p n c) b) (hnc : n ≤ c) (hc : n ≤ 140737488355328) :
 Calls Tryz.prog 150 #[.slice p n c, .int .i64 20, .func (.func 151) #[] #[]] w (TkR b w) := by
 obtain ⟨W, hW⟩ : ∃ W, (w.alloc (.cells #[.int .i64 0, .int .u16 0, .int .i64 0, .string ⟨#[]⟩] 68)).alloc (.cells #[.int .i64 0, .int .u16 0, .int .i64 0, .string ⟨#[]⟩] 68) = W := ⟨_, rfl⟩
 have hbx := Lib.hid (two_boxes (xs := [.int .i64 0, .int .u16 0, .int .i64 0, .string ⟨#[]⟩]) (ys := [.int .i64 0, .int .u16 0, .int .i64 0, .string ⟨#[]⟩]) hW)
 have hres : Hid (RowV 68 W w.heap.size [.int .i64 0, .int .u16 0, .int .i64 0, .string ⟨#[]⟩]) := by
  have h0 := (RowV.made (T := 68) w [.int .i64 0, .int .u16 0, .int .i64 0, .string ⟨#[]⟩]).below ((Below.refl _ _).alloc (Nat.le_refl _) (.cells #[.int .i64 0, .int .u16 0, .int .i64 0, .string ⟨#[]⟩] 68))
  show RowV _ _ _ _
  rw [← hW]; exact h0
 have hz1 := sizeRow 0 0 0 ⟨#[]⟩
 have z1 : ∀ v ∈ ([.int .i64 0, .int .u16 0, .int .i64 0, .string ⟨#[]⟩] : List Value), v.oneCell' = true := RowD.one zeroR
 have hlen := holds_len hv
 obtain ⟨m, hm⟩ : ∃ m : Nat, m = min n 20 := ⟨_, rfl⟩
 have hmn : min (n : Int) 20 = (m : Int) := by omega
 have hml : m ≤ n := by omega
 have hsl := fun u => slice_bytes p n c m hml hnc u
 have hvm : Hid (Lib.HoldsBytes W (.slice p m c) (b.take m)) := by
  have h := holds_take hv (below_refl_of w) hml
  exact holds_below h hbx.out.1 (Nat.le_refl _)
 have hbm : Hid (b.take m = b.take 20) := by
  show b.take m = _
  rw [hm, hlen]
  rcases Nat.le_total b.length 20 with h | h
  · rw [Nat.min_eq_left h, List.take_length, List.take_of_length_le h]
  · rw [Nat.min_eq_right h]
 have hlenb : Hid (((b.take 20).length : Int) = m) := by show _ = _; rw [← hbm.out, List.length_take]; omega
 have hm1 : m ≤ 20 := by omega
 clear hv hlen hm
 go_enter Tryz.func150, Tryz.ntmps150
 go_wp2_with fail
 clear hW
 refine (read_any p m c (b.take m) W hvm.out (by omega)).mono ?_
 rintro e w1 ⟨g, d, rfl, hr1, hg1, hd1, hb1⟩
 rw [hbm.out] at hr1
 have hr1' : Hid (RdrS w1 g d ⟨b.take 20, 0⟩) := hr1
 have hg1' : W.heap.size ≤ g := hg1
 have hd1' := Lib.hid hd1
 have hb1' := Lib.hid hb1
 clear hr1 hg1 hd1 hb1 hsl hmn
 obtain ⟨W2, hW2⟩ : ∃ W2, w1.alloc (.cells #[.pointer (some ⟨g, 0, none⟩)] 190) = W2 := ⟨_, rfl⟩
 have hb2 := Lib.hid (one_box (xs := [.pointer (some ⟨g, 0, none⟩)]) hW2)
 have r2 := Lib.hid (hr1'.out.below hb2.out.1)
 have hB2 := Lib.hid (hb1'.out.trans (hb2.out.1.mono hb1'.out.size))
 have hs1 := sizeRd (.pointer (some ⟨g, 0, none⟩))
 have c0 := hb2.out.2.1.cell 0 rfl
 have hgw1 : g < w1.heap.size := hr1'.out.lt
 have hlen1 : Hid ((⟨b.take 20, 0⟩ : St).l.length = m) := by show (b.take 20).length = m; have := hlenb.out; omega
 go_wp2_with fail
 clear hW2
 refine (rdLeft g d ⟨b.take 20, 0⟩ W2 r2.out).mono ?_
 rintro e w2' ⟨rfl, rfl⟩
 rw [hlen1.out]
 clear c0
 go_wp2_with (first
  | (with_reducible refine wpList_load_at rfl 190 (.tmp 10) rfl Tryz.underlying190 rfl hs1 rfl hb2.out.2.1.all ?_))
 refine (row_rd g d ⟨b.take 20, 0⟩ W2 r2.out).mono ?_
 have hlowW : w.heap.size + 2 ≤ W2.heap.size := by have := hbx.out.2.2.2; have := hB2.out.size; omega
 rintro e w3 ⟨⟨⟨rt, ri⟩, rv, rs⟩, e3, s3, hp3, rfl, hg3, hr3⟩
 unfold rowV
 have hp3' := Lib.hid hp3
 have s3' := Lib.hid ((hres.out.below hB2.out).gr hg3 (by have := hres.out.lt; omega))
 have z3' := Lib.hid ((hbx.out.2.2.1.below hB2.out (Nat.le_refl _)).gr hg3 (by have := hbx.out.2.2.2; omega))
 have x3' := Lib.hid (hb2.out.2.1.gr hg3 (by omega))
 have hB3 := Lib.hid (Gr.below hg3 (hbx.out.1.trans (hB2.out.mono hbx.out.1.size)) (by have := hbx.out.1.size; omega))
 have r3 := Lib.hid hr3
 have hs3l := hr3.short
 have hlow3 : w.heap.size + 2 ≤ w3.heap.size := by have := hg3.size; omega
 clear hp3 hg3 hr3
 obtain ⟨W4, hW4⟩ : ∃ W4, w3.alloc (.cells #[.int .i64 rt, .int .u16 ri, .int .i64 rv, .string rs] 68) = W4 := ⟨_, rfl⟩
 have hb4 := Lib.hid (one_box (xs := [.int .i64 rt, .int .u16 ri, .int .i64 rv, .string rs]) hW4)
 have hs4 := sizeRow rt ri rv rs
 have s4 := Lib.hid (s3'.out.below hb4.out.1)
 have z4 := Lib.hid (z3'.out.below hb4.out.1 (Nat.le_refl _))
 have x4 := Lib.hid (x3'.out.below hb4.out.1 (Nat.le_refl _))
 have r4 := Lib.hid (r3.out.below hb4.out.1)
 have hB4 := Lib.hid (hB3.out.trans (hb4.out.1.mono hB3.out.size))
 by_cases hz8 : e3 = 0
 · subst hz8
   go_wp2
   clear hW4
   have hB9 := Lib.hid (hB4.out.trans ((below_drew W4).mono hB4.out.size))
   obtain ⟨S3, hS3⟩ : ∃ S : Nat, s3.l.length = S := ⟨_, rfl⟩
   rw [hS3] at hs3l
   have hwr : IntKind.i64.wrap ((m : Int) - (S3 : Int)) = (m : Int) - S3 := IntWalk.i64_in _ (by omega)
   have hS0 : Hid (Boxed W4.drew w3.heap.size [.int .i64 rt, .int .u16 ri, .int .i64 rv, .string rs] ∧ Boxed W4.drew w1.heap.size [.pointer (some ⟨g, 0, none⟩)] ∧ RdrS W4.drew g d s3) := ⟨hb4.out.2.1.below (below_drew W4) (Nat.le_refl _), x4.out.below (below_drew W4) (Nat.le_refl _), r4.out.below (below_drew W4)⟩
   refine wp_region_held (S := fun u => Boxed u w3.heap.size [.int .i64 rt, .int .u16 ri, .int .i64 rv, .string rs] ∧ Boxed u w1.heap.size [.pointer (some ⟨g, 0, none⟩)] ∧ RdrS u g d s3) (by kernel_rfl) ?_
   change wpAnyH _ _ _ _ _ _ _ _ (World.drew W4)
   refine held_take (i := 0) (dst := some 35) rfl rfl (by kernel_rfl) (by kernel_rfl) (by kernel_rfl) (fun _ _ _ h => h) (y_load_agg 68 (.tmp 12) rfl rfl rfl (fun W hW => run_loadVar_at Tryz.underlying68 rfl hs4 _ hW.1.all)) hS0.out ?_
   go_frame
   refine held_take (i := 1) (dst := some 36) (v := .int .i64 (m : Int)) rfl rfl (by kernel_rfl) (by kernel_rfl) (by kernel_rfl) (fun _ _ _ h => h) (.inl ⟨rfl, fun W hW => by go_simp⟩) hS0.out ?_
   go_frame
   refine held_take (i := 2) (dst := some 37) (v := .pointer (some ⟨w1.heap.size, 0, none⟩)) rfl rfl (by kernel_rfl) (by kernel_rfl) (by kernel_rfl) (fun _ _ _ h => h) (.inl ⟨rfl, fun W hW => by go_simp⟩) hS0.out ?_
   go_frame
   refine held_take (i := 3) (dst := some 38) (v := .pointer (some ⟨g, 0, none⟩)) rfl rfl (by kernel_rfl) (by kernel_rfl) (by kernel_rfl) (fun _ _ _ h => h) (.inl ⟨rfl, fun W hW => by have c0 := hW.2.1.cell 0 rfl; go_simp⟩) hS0.out ?_
   go_frame
   refine held_call (i := 4) (dst := some 39) rfl rfl (by kernel_rfl) rfl (by go_simp) (rdLeft g d s3 _ hS0.out.2.2) ?_
   rintro e u ⟨rfl, rfl⟩
   rw [hS3]
   refine ⟨_, rfl, hS0.out, ?_⟩
   go_frame
   refine held_take (i := 5) (dst := some 40) (v := .int .i64 ((m : Int) - S3)) rfl rfl (by kernel_rfl) (by kernel_rfl) (by kernel_rfl) (fun _ _ _ h => h) (.inl ⟨rfl, fun W hW => by go_simp⟩) hS0.out ?_
   go_frame
   obtain ⟨w9, hst, h9, hg9⟩ := run_storeVar_at (P := Tryz.prog) (ty := 68) (o := 0) (vs := [.int .i64 rt, .int .u16 ri, .int .i64 rv, .string rs]) (s4.out.below (below_drew W4)) hs4 (Nat.le_refl _) (RowD.one ⟨⟨rt, ri⟩, rv, rs⟩)
   have hlt4 : w.heap.size < w1.heap.size := by have := hb1'.out.size; have := hbx.out.2.2.2; omega
   have hS9 : Hid (Boxed w9 w3.heap.size [.int .i64 rt, .int .u16 ri, .int .i64 rv, .string rs] ∧ Boxed w9 w1.heap.size [.pointer (some ⟨g, 0, none⟩)] ∧ RdrS w9 g d s3) := ⟨hS0.out.1.gr hg9 (by omega), hS0.out.2.1.gr hg9 (by omega), hS0.out.2.2.keep hg9 (by have := hbx.out.2.2.2; omega) (fun e => by have := hd1'.out _ e; have := hbx.out.2.2.2; omega)⟩
   refine held_skip (i := 6) (dst := none) (w' := w9) rfl rfl (by kernel_rfl) rfl (run_store_op rfl rfl rfl hst) hS9.out ?_
   go_frame
   refine held_take (i := 7) (dst := some 7) (v := .int .i64 ((m : Int) - S3)) rfl rfl (by kernel_rfl) (by kernel_rfl) (by kernel_rfl) (fun _ _ _ h => h) (.inl ⟨rfl, fun W hW => by go_simp⟩) hS9.out ?_
   go_frame
   refine held_take (i := 8) (dst := some 8) (v := .int .i64 0) rfl rfl (by kernel_rfl) (by kernel_rfl) (by kernel_rfl) (fun _ _ _ h => h) (.inl ⟨rfl, fun W hW => by go_simp⟩) hS9.out ?_
   go_frame
   refine wpAnyH_done (by kernel_rfl) ?_ _
   have q9 : Hid (RowV 68 w9 w.heap.size [.int .i64 rt, .int .u16 ri, .int .i64 rv, .string rs]) := h9
   have hg9' := Lib.hid hg9
   have hS3' := Lib.hid hS3
   clear hst h9 hg9 hwr hS3
   have s9 : RowV 68 w9 w.heap.size [.int .i64 rt, .int .u16 ri, .int .i64 rv, .string rs] := q9.out
   have m0 := s9.cell 0
   have m1 := s9.cell 1
   have m2 := s9.cell 2
   have m3 := s9.cell 3
   simp only [List.getElem?_cons_zero, List.getElem?_cons_succ] at m0 m1 m2 m3
   go_wp2
   refine bodyPost_ret (v := .tuple #[rowV ⟨⟨rt, ri⟩, rv, rs⟩, .int .i64 ((m : Int) - S3), .int .i64 0]) (by simp [results, Tryz.results150, go_sem, m0, m1, m2, m3, rowV]) rfl ?_
   rw [← hS3'.out]
   exact ⟨_, _, 0, ⟨_, 0, s3, hp3'.out, .inr ⟨rfl, rfl, by rw [hlenb.out], rfl⟩⟩, rfl, Gr.below hg9'.out hB9.out (Nat.le_refl _)⟩
 · have hB9 := hB4
   go_wp2_with (first
    | (with_reducible refine wpList_load_at rfl 68 (.tmp 9) rfl Tryz.underlying68 rfl hz1 rfl z4.out.all ?_)
    | ((with_reducible refine wpList_store_at rfl 68 (.tmp 6) (.tmp 33) rfl (o := 0) (vs := [.int .i64 0, .int .u16 0, .int .i64 0, .string ⟨#[]⟩]) rfl rfl s4.out hz1 (Nat.le_refl _) (z1) ?_)
       intro w9 h9 hg9
       have q9 := Lib.hid h9
       have hg9' := Lib.hid hg9
       clear h9 hg9))
   clear hW4
   have s9 : RowV 68 w9 w.heap.size [.int .i64 0, .int .u16 0, .int .i64 0, .string ⟨#[]⟩] := q9.out
   have m0 := s9.cell 0
   have m1 := s9.cell 1
   have m2 := s9.cell 2
   have m3 := s9.cell 3
   simp only [List.getElem?_cons_zero, List.getElem?_cons_succ] at m0 m1 m2 m3
   refine bodyPost_ret (v := .tuple #[rowV zeroR, .int .i64 0, .int .i64 e3]) (by simp [results, Tryz.results150, go_sem, m0, m1, m2, m3, rowV, zeroR]) rfl ?_
   exact ⟨zeroR, 0, e3, ⟨_, e3, s3, hp3'.out, .inl ⟨hz8, rfl, rfl, rfl⟩⟩, rfl, Gr.below hg9'.out hB9.out (Nat.le_refl _)⟩
set_option maxRecDepth 100000 in
set_option maxHeartbeats 2000000 in
theorem takeContent_any (p : Option Addr) (n c : Nat) (b : List UInt8) (w : World) (hv : Lib.HoldsBytes w (.slice p n c) b) (hnc : n ≤ c) (hc : n ≤ 140737488355328) :
 Calls Tryz.prog 137 #[.slice p n c] w (TkC b w) := by
 obtain ⟨W, hW⟩ : ∃ W, w.alloc (.cells #[.int .i64 0, .slice none 0 0, .slice none 0 0] 55) = W := ⟨_, rfl⟩
 have hbx := Lib.hid (one_box (xs := [.int .i64 0, .slice none 0 0, .slice none 0 0]) hW)
 have hres : Hid (RowV 55 W w.heap.size [.int .i64 0, .slice none 0 0, .slice none 0 0]) := by
  have h0 := RowV.made (T := 55) w [.int .i64 0, .slice none 0 0, .slice none 0 0]
  show RowV _ _ _ _
  rw [← hW]; exact h0
 have htk := Lib.hid (takeC_any p n c b W (holds_below hv hbx.out.1 (Nat.le_refl _)) hnc hc)
 clear hv
 go_enter Tryz.func137, Tryz.ntmps137
 go_wp2_with fail
 clear hW
 refine htk.out.mono ?_
 clear htk
 rintro e w1 ⟨ct, nn, er, k, rq, rn, rc, kq, kn, kc, ht, rfl, hon, hf1, hf2, hb1⟩
 have ht' := Lib.hid ht
 have hon' := Lib.hid hon
 have hf1' := Lib.hid hf1
 have hf2' := Lib.hid hf2
 have hb1' := Lib.hid (hbx.out.1.trans (hb1.mono hbx.out.1.size))
 have s1 := Lib.hid (hres.out.below hb1)
 have hs2 := sizeCont (.int .i64 k) (.slice rq rn rc) (.slice kq kn kc)
 clear ht hon hf1 hf2 hb1
 go_wp2_with (first
  | ((with_reducible refine wpList_store_at rfl 55 (.tmp 2) (.tmp 7) rfl (o := 0) (vs := [.int .i64 k, .slice rq rn rc, .slice kq kn kc]) rfl rfl s1.out hs2 (Nat.le_refl _) (cont_one _ _ _ _ _ _ _) ?_)
     intro w9 h9 hg9
     have q9 := Lib.hid h9
     have hg9' := Lib.hid hg9
     clear h9 hg9))
 have s9 : RowV 55 w9 w.heap.size [.int .i64 k, .slice rq rn rc, .slice kq kn kc] := q9.out
 have m0 := s9.cell 0
 have m1 := s9.cell 1
 have m2 := s9.cell 2
 simp only [List.getElem?_cons_zero, List.getElem?_cons_succ] at m0 m1 m2
 refine bodyPost_ret (v := .tuple #[.agg #[.int .i64 k, .slice rq rn rc, .slice kq kn kc], .int .i64 nn, .int .i64 er]) (by simp [results, Tryz.results137, go_sem, m0, m1, m2]) rfl ?_
 have hn1 : Hid (∀ a, rq = some a → a.block ≠ w.heap.size) := fun a ha => by have := hf1'.out a ha; have := hbx.out.2.2; omega
 have hn2 : Hid (∀ a, kq = some a → a.block ≠ w.heap.size) := fun a ha => by have := hf2'.out a ha; have := hbx.out.2.2; omega
 exact ⟨ct, nn, er, k, rq, rn, rc, kq, kn, kc, ht'.out, rfl, hon'.out.gr hg9'.out hn1.out hn2.out, (fun a ha => by have := hf1'.out a ha; have := hbx.out.1.size; omega), (fun a ha => by have := hf2'.out a ha; have := hbx.out.1.size; omega), Gr.below hg9'.out hb1'.out (Nat.le_refl _)⟩
set_option maxRecDepth 100000 in
set_option maxHeartbeats 2000000 in
theorem takeRow_any (p : Option Addr) (n c : Nat) (b : List UInt8) (w : World) (hv : Lib.HoldsBytes w (.slice p n c) b) (hnc : n ≤ c) (hc : n ≤ 140737488355328) :
 Calls Tryz.prog 139 #[.slice p n c] w (TkR b w) := by
 obtain ⟨W, hW⟩ : ∃ W, w.alloc (.cells #[.int .i64 0, .int .u16 0, .int .i64 0, .string ⟨#[]⟩] 68) = W := ⟨_, rfl⟩
 have hbx := Lib.hid (one_box (xs := [.int .i64 0, .int .u16 0, .int .i64 0, .string ⟨#[]⟩]) hW)
 have hres : Hid (RowV 68 W w.heap.size [.int .i64 0, .int .u16 0, .int .i64 0, .string ⟨#[]⟩]) := by
  have h0 := RowV.made (T := 68) w [.int .i64 0, .int .u16 0, .int .i64 0, .string ⟨#[]⟩]
  show RowV _ _ _ _
  rw [← hW]; exact h0
 have htk := Lib.hid (takeR_any p n c b W (holds_below hv hbx.out.1 (Nat.le_refl _)) hnc hc)
 clear hv
 go_enter Tryz.func139, Tryz.ntmps139
 go_wp2_with fail
 clear hW
 refine htk.out.mono ?_
 clear htk
 rintro e w1 ⟨r, nn, er, ht, rfl, hb1⟩
 unfold rowV
 obtain ⟨⟨rt, ri⟩, rv, rs⟩ := r
 have ht' := Lib.hid ht
 have hb1' := Lib.hid (hbx.out.1.trans (hb1.mono hbx.out.1.size))
 have s1 := Lib.hid (hres.out.below hb1)
 have hs2 := sizeRow rt ri rv rs
 have z1 : ∀ v ∈ ([.int .i64 rt, .int .u16 ri, .int .i64 rv, .string rs] : List Value), v.oneCell' = true := RowD.one ⟨⟨rt, ri⟩, rv, rs⟩
 clear ht hb1
 go_wp2_with (first
  | ((with_reducible refine wpList_store_at rfl 68 (.tmp 2) (.tmp 7) rfl (o := 0) (vs := [.int .i64 rt, .int .u16 ri, .int .i64 rv, .string rs]) rfl rfl s1.out hs2 (Nat.le_refl _) z1 ?_)
     intro w9 h9 hg9
     have q9 := Lib.hid h9
     have hg9' := Lib.hid hg9
     clear h9 hg9))
 have s9 : RowV 68 w9 w.heap.size [.int .i64 rt, .int .u16 ri, .int .i64 rv, .string rs] := q9.out
 have m0 := s9.cell 0
 have m1 := s9.cell 1
 have m2 := s9.cell 2
 have m3 := s9.cell 3
 simp only [List.getElem?_cons_zero, List.getElem?_cons_succ] at m0 m1 m2 m3
 refine bodyPost_ret (v := .tuple #[rowV ⟨⟨rt, ri⟩, rv, rs⟩, .int .i64 nn, .int .i64 er]) (by simp [results, Tryz.results139, go_sem, m0, m1, m2, m3, rowV]) rfl ?_
 exact ⟨_, nn, er, ht'.out, rfl, Gr.below hg9'.out hb1'.out (Nat.le_refl _)⟩
end Go.Proofs.YtocekhckmpkbmaaGreat
