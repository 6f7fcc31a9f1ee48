/- Page: cut in two, and joined. -/
import Derived.Test.YtaiepdhmlmnggaaPTk
import Derived.Test.YtaiepdhmlmnggaaPCt
namespace Go.Proofs.Ytaiepdhmlmnggaa
open Go.RowKit

theorem RowV.boxed {T : TypeId} {w : World} {g : Nat} {cs : List Value} (h : RowV T w g cs) : Boxed w g cs := RowV.part h (pre := []) (rest := []) (by simp) rfl
theorem four_rows {w W : World} {T1 T2 T3 T4 : TypeId} {xs ys zs us : List Value} (h : (((w.alloc (.cells xs.toArray T1)).alloc (.cells ys.toArray T2)).alloc (.cells zs.toArray T3)).alloc (.cells us.toArray T4) = W) : Below w.heap.size w W ∧ RowV T1 W w.heap.size xs ∧ RowV T2 W (w.heap.size + 1) ys ∧ RowV T3 W (w.heap.size + 2) zs ∧ RowV T4 W (w.heap.size + 3) us ∧ W.heap.size = w.heap.size + 4 := by
  have h1 := RowV.made (T := T1) w xs
  have h2 := RowV.made (T := T2) (w.alloc (.cells xs.toArray T1)) ys
  have h3 := RowV.made (T := T3) ((w.alloc (.cells xs.toArray T1)).alloc (.cells ys.toArray T2)) zs
  have h4 := RowV.made (T := T4) (((w.alloc (.cells xs.toArray T1)).alloc (.cells ys.toArray T2)).alloc (.cells zs.toArray T3)) us
  have s1 : Below (w.alloc (.cells xs.toArray T1)).heap.size (w.alloc (.cells xs.toArray T1)) ((w.alloc (.cells xs.toArray T1)).alloc (.cells ys.toArray T2)) := (Below.refl _ _).alloc (Nat.le_refl _) _
  have s2 : Below ((w.alloc (.cells xs.toArray T1)).alloc (.cells ys.toArray T2)).heap.size ((w.alloc (.cells xs.toArray T1)).alloc (.cells ys.toArray T2)) (((w.alloc (.cells xs.toArray T1)).alloc (.cells ys.toArray T2)).alloc (.cells zs.toArray T3)) := (Below.refl _ _).alloc (Nat.le_refl _) _
  have s3 : Below (((w.alloc (.cells xs.toArray T1)).alloc (.cells ys.toArray T2)).alloc (.cells zs.toArray T3)).heap.size (((w.alloc (.cells xs.toArray T1)).alloc (.cells ys.toArray T2)).alloc (.cells zs.toArray T3)) W := by rw [← h]; exact (Below.refl _ _).alloc (Nat.le_refl _) _
  have s0 : Below w.heap.size w (w.alloc (.cells xs.toArray T1)) := (Below.refl _ _).alloc (Nat.le_refl _) _
  rw [h] at h4
  simp only [World.size_alloc] at h2 h3 h4
  refine ⟨below_step s3 (below_step s2 (below_step s1 s0)), ((h1.below s1).below s2).below s3, ?_, ?_, ?_, ?_⟩
  · exact (h2.below s2).below s3
  · exact h3.below s3
  · exact h4
  · rw [← h]; simp only [World.size_alloc]
theorem OwnK.opened {w : World} {B : Nat} {a : Addr} {n c : Nat} {l : List KidD} (h : OwnK w B (.slice (some a) n c) l) :
    ∃ g cur, a = ⟨g, 0, none⟩ ∧ B ≤ g ∧ RowV 64 w g cur ∧ n ≤ c ∧ c ≤ maxLen ∧ cur.length = c * 3 ∧ cur.take (n * 3) = cellsK l := by
  have hl := h.len
  obtain ⟨hlen, ⟨he, h0⟩ | ⟨g, cap, cur, he, hg, hh, hle, hm, hs, ht⟩⟩ := h
  · simp only [Value.slice.injEq] at he; exact absurd he.1 (by simp)
  · simp only [Value.slice.injEq] at he
    obtain ⟨e1, e2, rfl⟩ := he
    cases e1
    exact ⟨g, cur.toList, rfl, hg, by unfold RowV; simpa using hh, by omega, hm, by simpa using hs, by rw [hl]; exact ht⟩
theorem OwnK.mk {w : World} {B g n c : Nat} {cur : List Value} {l : List KidD} (hB : B ≤ g) (hr : RowV 64 w g cur) (hn : n ≤ c) (hc : c ≤ maxLen) (hs : cur.length = c * 3) (ht : cur.take (n * 3) = cellsK l) (hl : l.length = n) : OwnK w B (.slice (some ⟨g, 0, none⟩) n c) l := by
  subst hl
  exact ⟨cellsK_len l, .inr ⟨g, c, cur.toArray, rfl, hB, hr, hn, hc, by simpa using hs, by simpa using ht⟩⟩
theorem OwnR.some {w : World} {B : Nat} {q : Option Addr} {n c : Nat} {l : List RowD} (h : OwnR 30 w B (.slice q n c) l) (hn : 0 < n) : ∃ a, q = some a := by
  obtain ⟨_, ⟨he, h0⟩ | ⟨g, cap, cur, he, _⟩⟩ := h
  · simp only [Value.slice.injEq] at he; omega
  · simp only [Value.slice.injEq] at he; exact ⟨_, he.1⟩
theorem OwnK.some {w : World} {B : Nat} {q : Option Addr} {n c : Nat} {l : List KidD} (h : OwnK w B (.slice q n c) l) (hn : 0 < n) : ∃ a, q = some a := by
  obtain ⟨_, ⟨he, h0⟩ | ⟨g, cap, cur, he, _⟩⟩ := h
  · simp only [Value.slice.injEq] at he; omega
  · simp only [Value.slice.injEq] at he; exact ⟨_, he.1⟩
/-- the least key of one kid is written over -/
theorem kids_store {cur : List Value} {n c i : Nat} {s x : KeyD} {p : Int} {A D : List KidD} (hs : cur.length = c * 3) (ht : cur.take (n * 3) = cellsK (A ++ ⟨x, p⟩ :: D)) (hA : A.length = i) (hl : A.length + (D.length + 1) = n) :
    (splice cur (i * 3) [.int .i64 s.t, .int .u16 s.id]).take (n * 3) = cellsK (A ++ ⟨s, p⟩ :: D) ∧ (splice cur (i * 3) [.int .i64 s.t, .int .u16 s.id]).length = c * 3 ∧ i * 3 + 2 ≤ cur.length := by
  obtain ⟨R, hR⟩ : ∃ R, cur = cellsK (A ++ ⟨x, p⟩ :: D) ++ R := ⟨cur.drop (n * 3), by rw [← ht, List.take_append_drop]⟩
  have ha : (cellsK A).length = i * 3 := by rw [cellsK_len, hA]
  have hd : (cellsK D).length = D.length * 3 := cellsK_len D
  obtain ⟨V, hV⟩ : ∃ V : List Value, V = [.int .i64 s.t, .int .u16 s.id] := ⟨_, rfl⟩
  obtain ⟨T, hT⟩ : ∃ T : List Value, T = .int .i64 p :: (cellsK D ++ R) := ⟨_, rfl⟩
  obtain ⟨U, hU⟩ : ∃ U : List Value, U = [.int .i64 x.t, .int .u16 x.id] := ⟨_, rfl⟩
  have hU2 : U.length = 2 := by rw [hU]; rfl
  have hV2 : V.length = 2 := by rw [hV]; rfl
  have hc : cur = cellsK A ++ (U ++ T) := by rw [hR, cellsK_append, hU, hT]; simp [cellsK, KidD.cells]
  have hsp : splice cur (i * 3) V = cellsK A ++ (V ++ T) := by
    unfold splice
    rw [hc, ← ha, List.take_left, hV2, ← List.drop_drop, List.drop_left, ← hU2, List.drop_left]
  rw [← hV]
  refine ⟨?_, ?_, ?_⟩
  · rw [hsp]
    have e : cellsK A ++ (V ++ T) = cellsK (A ++ ⟨s, p⟩ :: D) ++ R := by rw [cellsK_append, hV, hT]; simp [cellsK, KidD.cells]
    rw [e]
    refine List.take_left' ?_
    rw [cellsK_len, List.length_append, List.length_cons, hl]
  · rw [hsp]
    have h3 := congrArg List.length hc
    simp only [List.length_append] at h3 ⊢
    omega
  · have h3 := congrArg List.length hc
    simp only [List.length_append] at h3
    omega

def FarV (lo hi : Nat) (v : CV) : Prop := (∀ a, v.rq = some a → lo ≤ a.block ∧ a.block < hi) ∧ (∀ a, v.kq = some a → lo ≤ a.block ∧ a.block < hi)
def CutPost (c : ContD) (i : Nat) (w : World) (e : Ending) (w' : World) : Prop := ∃ (va vb : CV), e = .returned (.tuple #[va.val, vb.val, .agg #[.int .i64 (cutS c i).t, .int .u16 (cutS c i).id]]) ∧ va.On w' (cutA c i) ∧ vb.On w' (cutB c i) ∧ FarV w.heap.size w'.heap.size va ∧ FarV w.heap.size w'.heap.size vb ∧ Below w.heap.size w w'
theorem put_fit {cs : List Value} {n : Nat} {r : RowD} {L : List RowD} (ht : cs.take (n * 4) = cellsR (r :: L)) : ∀ (j : Nat) (x : Value), ([.int .i64 r.key.t, .int .u16 r.key.id] : List Value)[j]? = some x → cs[j]? = some x := fun j x hj => by
  have h : (cs.take (n * 4))[j]? = some x := by
    rw [ht]
    match j, hj with
    | 0, hj => exact hj
    | 1, hj => exact hj
    | j + 2, hj => simp at hj
  rw [List.getElem?_take] at h
  split at h
  · exact h
  · cases h
set_option maxRecDepth 100000 in
set_option maxHeartbeats 4000000 in
theorem cutR_any (v : CV) (c : ContD) (i : Nat) (w : World) (h : v.On w c) (hk : c.kind = 1) (hn : v.rn ≤ 1000000) (hi : i < v.rn) :
    Calls Try.prog 53 #[v.val, .int .i64 i] w (CutPost c i w) := by
  have hrows : RowsOn w v.rq v.rn v.rc c.rows := h.rows
  have hkd : v.k = 1 := h.kind.trans hk
  obtain ⟨k, rq, rn, rc, kq, kn, kc⟩ := v
  obtain ⟨kind, rows, kids⟩ := c
  simp only at hrows hn hi hkd hk
  subst hkd hk
  obtain ⟨r, hr⟩ : ∃ r, rows[i]? = some r := ⟨_, List.getElem?_eq_getElem (by rw [hrows.len]; exact hi)⟩
  have hdr : rows.drop i = r :: rows.drop (i + 1) := by
    obtain ⟨hl, rfl⟩ := List.getElem?_eq_some_iff.1 hr
    exact List.drop_eq_getElem_cons hl
  have hcS : Hid (cutS ⟨1, rows, kids⟩ i = r.key) := by show cutS _ _ = _; unfold cutS; rw [if_pos rfl, hr]; rfl
  obtain ⟨⟨t, id⟩, v, s⟩ := r
  have hcS : Hid (cutS ⟨1, rows, kids⟩ i = ⟨t, id⟩) := hcS
  have hok := Lib.hid hrows.ok
  obtain ⟨W, hW⟩ : ∃ W, (((w.alloc (.cells #[.int .i64 1, .slice rq rn rc, .slice kq kn kc] 25)).alloc (.cells #[.int .i64 0, .slice none 0 0, .slice none 0 0] 25)).alloc (.cells #[.int .i64 0, .slice none 0 0, .slice none 0 0] 25)).alloc (.cells #[.int .i64 0, .int .u16 0] 28) = W := ⟨_, rfl⟩
  have hbx := Lib.hid (four_rows (xs := [.int .i64 1, .slice rq rn rc, .slice kq kn kc]) (ys := [.int .i64 0, .slice none 0 0, .slice none 0 0]) (zs := [.int .i64 0, .slice none 0 0, .slice none 0 0]) (us := [.int .i64 0, .int .u16 0]) hW)
  have hha := Lib.hid (halvesR_any rq rn rc i rows W (hrows.below hbx.out.1 (Nat.le_refl _)) (by omega) hn)
  have c0 := hbx.out.2.1.boxed.cell 0 rfl
  have c1 := hbx.out.2.1.boxed.cell 1 rfl
  clear h hrows hr
  show Calls _ _ #[.agg #[.int .i64 1, .slice rq rn rc, .slice kq kn kc], .int .i64 i] _ _
  go_enter Try.func53, Try.ntmps53
  go_wp2_with fail
  refine hha.out.mono ?_
  clear hha hW c0 c1
  rintro e w2 ⟨q1, d1, q2, d2, B, rfl, o1, o2, hB, hlt1, hb2⟩
  obtain ⟨a2, rfl⟩ := o2.some (by omega)
  obtain ⟨g2, cur, rfl, hg2, hrow, hnc, hc, hsz, ht⟩ := o2.opened
  have hB := Lib.hid (o2.reads (fun x hx => hok.out x (List.mem_of_mem_drop hx)))
  have hA := Lib.hid (o1.reads (fun x hx => hok.out x (List.mem_of_mem_take hx)))
  rw [hdr] at ht
  have hkc : Hid (Boxed w2 g2 [.int .i64 t, .int .u16 id]) := fun j x hj => by
    rw [show (⟨g2, 0, none⟩ : Addr).add j = ⟨g2, j, none⟩ by unfold Addr.add; split <;> simp_all, hrow.cell]
    exact put_fit (r := ⟨⟨t, id⟩, v, s⟩) ht j x hj
  have hW4 : W.heap.size = w.heap.size + 4 := hbx.out.2.2.2.2.2
  have hg5 : w.heap.size + 4 ≤ g2 := by omega
  have hfa : Hid (∀ k : Nat, ∀ a, q1 = some a → a.block ≠ w.heap.size + (if k ≤ 3 then k else 3)) := fun k a ha => by have := (o1.far a ha).1; split <;> omega
  have hfb : Hid (∀ k : Nat, ∀ a, some (⟨g2, 0, none⟩ : Addr) = some a → a.block ≠ w.heap.size + (if k ≤ 3 then k else 3)) := fun k a ha => by cases ha; show g2 ≠ _; split <;> omega
  have hd2 := Lib.hid (below_step hb2 hbx.out.1)
  have ra0 := Lib.hid (hbx.out.2.2.1.below hb2)
  have rb0 := Lib.hid (hbx.out.2.2.2.1.below hb2)
  have rk0 := Lib.hid (hbx.out.2.2.2.2.1.below hb2)
  have hl1 : Hid (∀ a, q1 = some a → w.heap.size ≤ a.block ∧ a.block < w2.heap.size) := fun a ha => by have := o1.far a ha; omega
  have hl2 : Hid (g2 < w2.heap.size) := hrow.lt
  have i0 : (0 : Int) < ((rn - i : Nat) : Int) := by omega
  have i1 : ¬ rn - i = 0 := by omega
  clear o1 o2 hb2 hbx hlt1 hrow hnc hc hsz ht hdr
  go_wp2_with fail
  refine wp_region_held (S := fun u => Below w.heap.size w u ∧ Boxed u g2 [.int .i64 t, .int .u16 id]) (by kernel_rfl) ?_
  change wpAnyH _ _ _ _ _ _ _ _ (World.drew w2)
  have hS0 : Hid (Below w.heap.size w (w2.drew) ∧ Boxed w2.drew g2 [.int .i64 t, .int .u16 id]) := ⟨below_step (below_drew w2) hd2.out, hkc.out.below (below_drew w2) (Nat.le_refl _)⟩
  have ra := Lib.hid (ra0.out.below (below_drew w2))
  have rb := Lib.hid (rb0.out.below (below_drew w2))
  have rk := Lib.hid (rk0.out.below (below_drew w2))
  have hA := Lib.hid (hA.out.below (below_drew w2) (Nat.le_refl _))
  have hB := Lib.hid (hB.out.below (below_drew w2) (Nat.le_refl _))
  have hSz : Hid (w2.heap.size ≤ w2.drew.heap.size) := Nat.le_refl _
  clear ra0 rb0 rk0 hkc hd2
  generalize World.drew w2 = u0 at hS0 ra rb rk hA hB hSz ⊢
  refine held_tk (i := 0) (dst := some 22) (v := .slice q1 i d1) rfl rfl (.inl ⟨rfl, fun u hu => by obtain ⟨hd, hc⟩ := hu; go_simp⟩) hS0.out ?_; go_frame
  refine held_tk (i := 2) (dst := some 24) (v := .slice (some ⟨g2, 0, none⟩) (rn - i) d2) rfl rfl (.inl ⟨rfl, fun u hu => by obtain ⟨hd, hc⟩ := hu; go_simp⟩) hS0.out ?_; go_frame
  refine held_tk (i := 4) (dst := some 26) (v := .slice (some ⟨g2, 0, none⟩) (rn - i) d2) rfl rfl (.inl ⟨rfl, fun u hu => by obtain ⟨hd, hc⟩ := hu; go_simp⟩) hS0.out ?_; go_frame
  refine held_tk (i := 5) (dst := some 27) (v := .pointer (some ⟨g2, 0, none⟩)) rfl rfl (.inl ⟨rfl, fun u hu => by obtain ⟨hd, hc⟩ := hu; go_simp⟩) hS0.out ?_; go_frame
  refine held_tk (i := 6) (dst := some 28) (v := .pointer (some ⟨g2, 0, none⟩)) rfl rfl (.inl ⟨rfl, fun u hu => by obtain ⟨hd, hc⟩ := hu; go_simp⟩) hS0.out ?_; go_frame
  refine held_tk (i := 7) (dst := some 29) (v := .agg #[.int .i64 t, .int .u16 id]) rfl rfl (y_load_agg 28 (.tmp 28) rfl rfl rfl (fun u hu => run_loadVar_at Try.underlying28 rfl (sizeKey t id) _ hu.2.all)) hS0.out ?_; go_frame
  refine held_call (i := 1) (dst := some 23) rfl rfl (by kernel_rfl) rfl (by go_simp) (leafOf_any q1 i d1 u0) ?_
  rintro e u1 ⟨rfl, h8⟩
  have hS0 := Lib.hid (And.intro (below_step h8 hS0.out.1) (hS0.out.2.below h8 (Nat.le_refl _)))
  have ra := Lib.hid (ra.out.below h8)
  have rb := Lib.hid (rb.out.below h8)
  have rk := Lib.hid (rk.out.below h8)
  have hA := Lib.hid (hA.out.below h8 (Nat.le_refl _))
  have hB := Lib.hid (hB.out.below h8 (Nat.le_refl _))
  have hSz := Lib.hid (Nat.le_trans hSz.out h8.size)
  clear h8
  refine ⟨_, rfl, hS0.out, ?_⟩; go_frame
  refine held_call (i := 3) (dst := some 25) rfl rfl (by kernel_rfl) rfl (by go_simp) (leafOf_any (some ⟨g2, 0, none⟩) (rn - i) d2 u1) ?_
  rintro e u2 ⟨rfl, h8⟩
  have hS0 := Lib.hid (And.intro (below_step h8 hS0.out.1) (hS0.out.2.below h8 (Nat.le_refl _)))
  have ra := Lib.hid (ra.out.below h8)
  have rb := Lib.hid (rb.out.below h8)
  have rk := Lib.hid (rk.out.below h8)
  have hA := Lib.hid (hA.out.below h8 (Nat.le_refl _))
  have hB := Lib.hid (hB.out.below h8 (Nat.le_refl _))
  have hSz := Lib.hid (Nat.le_trans hSz.out h8.size)
  clear h8
  refine ⟨_, rfl, hS0.out, ?_⟩; go_frame
  obtain ⟨x1, hst, h9, hg9⟩ := run_storeVar_at (P := Try.prog) (ty := 25) (o := 0) (vs := [.int .i64 1, .slice q1 i d1, .slice none 0 0]) ra.out (sizeCont _ _ _) (Nat.le_refl _) (cont_one _ _ _ _ _ _ _)
  have ra1 : Hid (RowV 25 x1 (w.heap.size + 1) [.int .i64 1, .slice q1 i d1, .slice none 0 0]) := h9
  have rb1 := Lib.hid (RowV.gr rb.out hg9 (by omega))
  have rk1 := Lib.hid (RowV.gr rk.out hg9 (by omega))
  have hA1 := Lib.hid (hA.out.gr hg9 (hfa.out 1))
  have hB1 := Lib.hid (hB.out.gr hg9 (hfb.out 1))
  have hS1 := Lib.hid (And.intro (Gr.below hg9 hS0.out.1 (by omega)) (hS0.out.2.gr hg9 (by omega)))
  have hSz := Lib.hid (Nat.le_trans hSz.out hg9.size)
  clear h9 hg9
  refine held_skip (i := 8) (dst := none) (w' := x1) rfl rfl (by kernel_rfl) rfl (run_store_op rfl rfl rfl hst) hS1.out ?_; go_frame
  clear hst
  obtain ⟨x2, hst, h9, hg9⟩ := run_storeVar_at (P := Try.prog) (ty := 25) (o := 0) (vs := [.int .i64 1, .slice (some ⟨g2, 0, none⟩) (rn - i) d2, .slice none 0 0]) rb1.out (sizeCont _ _ _) (Nat.le_refl _) (cont_one _ _ _ _ _ _ _)
  have rb2 : Hid (RowV 25 x2 (w.heap.size + 2) [.int .i64 1, .slice (some ⟨g2, 0, none⟩) (rn - i) d2, .slice none 0 0]) := h9
  have ra2 := Lib.hid (RowV.gr ra1.out hg9 (by omega))
  have rk2 := Lib.hid (RowV.gr rk1.out hg9 (by omega))
  have hA2 := Lib.hid (hA1.out.gr hg9 (hfa.out 2))
  have hB2 := Lib.hid (hB1.out.gr hg9 (hfb.out 2))
  have hS2 := Lib.hid (And.intro (Gr.below hg9 hS1.out.1 (by omega)) (hS1.out.2.gr hg9 (by omega)))
  have hSz := Lib.hid (Nat.le_trans hSz.out hg9.size)
  clear h9 hg9
  refine held_skip (i := 9) (dst := none) (w' := x2) rfl rfl (by kernel_rfl) rfl (run_store_op rfl rfl rfl hst) hS2.out ?_; go_frame
  clear hst
  obtain ⟨x3, hst, h9, hg9⟩ := run_storeVar_at (P := Try.prog) (ty := 28) (o := 0) (vs := [.int .i64 t, .int .u16 id]) rk2.out (sizeKey _ _) (Nat.le_refl _) (by intro v hv; simp only [List.mem_cons, List.not_mem_nil, or_false] at hv; rcases hv with rfl | rfl <;> rfl)
  have rk3 : Hid (RowV 28 x3 (w.heap.size + 3) [.int .i64 t, .int .u16 id]) := h9
  have ra3 := Lib.hid (RowV.gr ra2.out hg9 (by omega))
  have rb3 := Lib.hid (RowV.gr rb2.out hg9 (by omega))
  have hA3 := Lib.hid (hA2.out.gr hg9 (hfa.out 3))
  have hB3 := Lib.hid (hB2.out.gr hg9 (hfb.out 3))
  have hS3 := Lib.hid (And.intro (Gr.below hg9 hS2.out.1 (by omega)) (hS2.out.2.gr hg9 (by omega)))
  have hSz := Lib.hid (Nat.le_trans hSz.out hg9.size)
  clear h9 hg9
  refine held_skip (i := 10) (dst := none) (w' := x3) rfl rfl (by kernel_rfl) rfl (run_store_op rfl rfl rfl hst) hS3.out ?_; go_frame
  clear hst
  refine wpAnyH_done (by kernel_rfl) ?_ _
  have s1 := ra3.out
  have s2 := rb3.out
  have s3 := rk3.out
  have m10 := s1.cell 0
  have m20 := s2.cell 0
  have m11 := s1.cell 1
  have m21 := s2.cell 1
  have m12 := s1.cell 2
  have m22 := s2.cell 2
  have m30 := s3.cell 0
  have m31 := s3.cell 1
  simp only [List.getElem?_cons_zero, List.getElem?_cons_succ] at m10 m11 m12 m20 m21 m22 m30 m31
  clear s1 s2 s3
  go_wp2
  refine bodyPost_ret (v := .tuple #[.agg #[.int .i64 1, .slice q1 i d1, .slice none 0 0], .agg #[.int .i64 1, .slice (some ⟨g2, 0, none⟩) (rn - i) d2, .slice none 0 0], .agg #[.int .i64 t, .int .u16 id]]) (by simp [results, Try.results53, go_sem, m10, m11, m12, m20, m21, m22, m30, m31]) rfl ?_
  refine ⟨⟨1, q1, i, d1, none, 0, 0⟩, ⟨1, some ⟨g2, 0, none⟩, rn - i, d2, none, 0, 0⟩, by rw [hcS.out], ?_, ?_, ⟨fun a ha => ⟨(hl1.out a ha).1, Nat.lt_of_lt_of_le (hl1.out a ha).2 hSz.out⟩, fun a ha => by cases ha⟩, ⟨fun a ha => by cases ha; exact ⟨by show w.heap.size ≤ g2; omega, Nat.lt_of_lt_of_le hl2.out hSz.out⟩, fun a ha => by cases ha⟩, hS3.out.1⟩
  · exact ⟨rfl, hA3.out, KidsOn.none_ _⟩
  · exact ⟨rfl, hB3.out, KidsOn.none_ _⟩

theorem kid_fit {cs : List Value} {n : Nat} {r : KidD} {L : List KidD} (ht : cs.take (n * 3) = cellsK (r :: L)) : ∀ (j : Nat) (x : Value), ([.int .i64 r.least.t, .int .u16 r.least.id] : List Value)[j]? = some x → cs[j]? = some x := fun j x hj => by
  have h : (cs.take (n * 3))[j]? = some x := by
    rw [ht]
    match j, hj with
    | 0, hj => exact hj
    | 1, hj => exact hj
    | j + 2, hj => simp at hj
  rw [List.getElem?_take] at h
  split at h
  · exact h
  · cases h
theorem zK_ok : KeyOk zK := ⟨by unfold I64; exact ⟨by decide, by decide⟩, by decide, by decide⟩
theorem key_one (t id : Int) : ∀ v ∈ ([.int .i64 t, .int .u16 id] : List Value), v.oneCell' = true := by
  intro v hv
  simp only [List.mem_cons, List.not_mem_nil, or_false] at hv
  rcases hv with rfl | rfl <;> rfl
set_option maxRecDepth 100000 in
set_option maxHeartbeats 4000000 in
theorem cutK_any (v : CV) (c : ContD) (i : Nat) (w : World) (h : v.On w c) (hk : c.kind ≠ 1) (hn : v.kn ≤ 1000000) (hi : i < v.kn) :
    Calls Try.prog 53 #[v.val, .int .i64 i] w (CutPost c i w) := by
  have hkids : KidsOn w v.kq v.kn v.kc c.kids := h.kids
  have hkd : v.k ≠ 1 := by rw [h.kind]; exact hk
  obtain ⟨k, rq, rn, rc, kq, kn, kc⟩ := v
  obtain ⟨kind, rows, kids⟩ := c
  simp only at hkids hn hi hkd hk
  have hk0 : (k == 1) = false := by simpa using hkd
  obtain ⟨r, hr⟩ : ∃ r, kids[i]? = some r := ⟨_, List.getElem?_eq_getElem (by rw [hkids.len]; exact hi)⟩
  have hdr : kids.drop i = r :: kids.drop (i + 1) := by
    obtain ⟨hl, rfl⟩ := List.getElem?_eq_some_iff.1 hr
    exact List.drop_eq_getElem_cons hl
  have hcS : Hid (cutS ⟨kind, rows, kids⟩ i = r.least) := by show cutS _ _ = _; unfold cutS; rw [if_neg hk, hr]; rfl
  obtain ⟨⟨t, id⟩, p⟩ := r
  have hcS : Hid (cutS ⟨kind, rows, kids⟩ i = ⟨t, id⟩) := hcS
  have hok := Lib.hid hkids.ok
  have hkl := Lib.hid hkids.len
  have hcA : Hid (cutA ⟨kind, rows, kids⟩ i = ⟨2, [], kids.take i⟩) := if_neg hk
  have hcB : Hid (cutB ⟨kind, rows, kids⟩ i = ⟨2, [], ⟨zK, p⟩ :: kids.drop (i + 1)⟩) := by show cutB _ _ = _; unfold cutB; rw [if_neg hk]; show (⟨2, [], leastAt zK (kids.drop i)⟩ : ContD) = _; rw [hdr]; rfl
  obtain ⟨W, hW⟩ : ∃ W, (((w.alloc (.cells #[.int .i64 k, .slice rq rn rc, .slice kq kn kc] 25)).alloc (.cells #[.int .i64 0, .slice none 0 0, .slice none 0 0] 25)).alloc (.cells #[.int .i64 0, .slice none 0 0, .slice none 0 0] 25)).alloc (.cells #[.int .i64 0, .int .u16 0] 28) = W := ⟨_, rfl⟩
  have hbx := Lib.hid (four_rows (xs := [.int .i64 k, .slice rq rn rc, .slice kq kn kc]) (ys := [.int .i64 0, .slice none 0 0, .slice none 0 0]) (zs := [.int .i64 0, .slice none 0 0, .slice none 0 0]) (us := [.int .i64 0, .int .u16 0]) hW)
  have hha := Lib.hid (halvesK_any kq kn kc i kids W (hkids.below hbx.out.1 (Nat.le_refl _)) (by omega) hn)
  have c0 := hbx.out.2.1.boxed.cell 0 rfl
  have c1 := hbx.out.2.1.boxed.cell 2 rfl
  clear h hkids hr hk hkd
  show Calls _ _ #[.agg #[.int .i64 k, .slice rq rn rc, .slice kq kn kc], .int .i64 i] _ _
  go_enter Try.func53, Try.ntmps53
  go_wp2_with fail
  refine hha.out.mono ?_
  clear hha hW c0 c1
  rintro e w2 ⟨q1, d1, q2, d2, B, rfl, o1, o2, hBB, hlt1, hb2⟩
  obtain ⟨a2, rfl⟩ := o2.some (by omega)
  obtain ⟨g2, cur, rfl, hg2, hrow, hnc, hc, hsz, ht⟩ := o2.opened
  have hA := Lib.hid (o1.reads (fun x hx => hok.out x (List.mem_of_mem_take hx)))
  rw [hdr] at ht
  have hw2 := hbx.out.2.2.2.2.2
  have hlz := hb2.size
  have hg5 : w.heap.size + 4 ≤ g2 := by omega
  have hfa : Hid (∀ k : Nat, ∀ a, q1 = some a → a.block ≠ w.heap.size + (if k ≤ 3 then k else 3)) := fun k a ha => by have := (o1.far a ha).1; split <;> omega
  have hfb : Hid (∀ k : Nat, ∀ a, some (⟨g2, 0, none⟩ : Addr) = some a → a.block ≠ w.heap.size + (if k ≤ 3 then k else 3)) := fun k a ha => by cases ha; show g2 ≠ _; split <;> omega
  have hfg : Hid (∀ a, q1 = some a → a.block ≠ g2) := fun a ha => by have := hlt1 a ha; omega
  obtain ⟨hst1, hst2, hst3⟩ := kids_store (i := 0) (s := zK) (A := []) hsz ht rfl (by have := congrArg List.length hdr; rw [List.length_drop, List.length_cons] at this; have := hkl.out; simp only [List.length_nil]; omega)
  have hd2 := Lib.hid (below_step hb2 hbx.out.1)
  have hgw : g2 < w2.heap.size := hrow.lt
  obtain ⟨w3, hw3⟩ : ∃ w3, w2.alloc (.cells #[.int .i64 t, .int .u16 id] 28) = w3 := ⟨_, rfl⟩
  have hbk := Lib.hid (one_box (xs := [.int .i64 t, .int .u16 id]) hw3)
  have hd3 := Lib.hid (below_step hbk.out.1 hd2.out)
  have ra0 := Lib.hid ((hbx.out.2.2.1.below hb2).below hbk.out.1)
  have rb0 := Lib.hid ((hbx.out.2.2.2.1.below hb2).below hbk.out.1)
  have rk0 := Lib.hid ((hbx.out.2.2.2.2.1.below hb2).below hbk.out.1)
  have hA0 := Lib.hid (hA.out.below hbk.out.1 (Nat.le_refl _))
  have hrow3 := Lib.hid (hrow.below hbk.out.1)
  have hkc : Hid (Boxed w2 g2 [.int .i64 t, .int .u16 id]) := fun j x hj => by
    rw [show (⟨g2, 0, none⟩ : Addr).add j = ⟨g2, j, none⟩ by unfold Addr.add; split <;> simp_all, hrow.cell]
    exact kid_fit (r := ⟨⟨t, id⟩, p⟩) ht j x hj
  have hmk : Hid (∀ u, RowV 64 u g2 (splice cur 0 [.int .i64 0, .int .u16 0]) → KidsOn u (some ⟨g2, 0, none⟩) (kn - i) d2 (⟨zK, p⟩ :: kids.drop (i + 1))) := fun u hu =>
    (OwnK.mk (B := 0) (Nat.zero_le _) hu hnc hc hst2 hst1 (by have := congrArg List.length hdr; rw [List.length_drop, List.length_cons] at this; have := hkl.out; rw [List.nil_append, List.length_cons]; omega)).reads (fun x hx => by
      rcases List.mem_cons.1 hx with rfl | hx
      · exact ⟨zK_ok, (hok.out ⟨⟨t, id⟩, p⟩ (List.mem_of_mem_drop (by rw [hdr]; exact List.mem_cons_self ..))).page⟩
      · exact hok.out x (List.mem_of_mem_drop hx))
  have hl1 : Hid (∀ a, q1 = some a → w.heap.size ≤ a.block ∧ a.block < w2.heap.size) := fun a ha => by have := o1.far a ha; omega
  have hl2 : Hid (g2 < w2.heap.size) := hgw
  have hz23 : Hid (w2.heap.size ≤ w3.heap.size) := hbk.out.1.size
  have i0 : (0 : Int) < ((kn - i : Nat) : Int) := by omega
  have i1 : ¬ kn - i = 0 := by omega
  have hs1 := sizeKey t id
  have hs0 := sizeKey 0 0
  have hfit : 0 + ([.int .i64 0, .int .u16 0] : List Value).length ≤ cur.length := by show 0 + 2 ≤ _; omega
  have hk1 := key_one 0 0
  clear o1 o2 hb2 hbx hlt1 hrow hnc hc hsz ht hdr hst1 hst2 hst3 hA hok
  go_wp2_with (first
    | (with_reducible refine wpList_load_at rfl 28 (.tmp 39) rfl Try.underlying28 rfl hs1 rfl hkc.out.all ?_)
    | ((with_reducible refine wpList_store_at rfl 28 (.tmp 44) (.tmp 42) rfl (o := 0) (vs := [.int .i64 0, .int .u16 0]) rfl rfl hrow3.out hs0 hfit hk1 ?_)
       intro w4 h9 hg9
       have hB0 := Lib.hid (hmk.out w4 h9)
       have ra := Lib.hid (RowV.gr ra0.out hg9 (by omega))
       have rb := Lib.hid (RowV.gr rb0.out hg9 (by omega))
       have rk := Lib.hid (RowV.gr rk0.out hg9 (by omega))
       have hA := Lib.hid (hA0.out.gr hg9 hfg.out)
       have hS := Lib.hid (And.intro (Gr.below hg9 hd3.out (by omega)) (hbk.out.2.1.gr hg9 (by omega)))
       have hSz0 := Lib.hid (Nat.le_trans hz23.out hg9.size)
       clear h9 hg9))
  have hw34 : Hid (w.heap.size + 3 < w2.heap.size) := by show _ < _; omega
  clear hw3 ra0 rb0 rk0 hA0 hbk hd3 hd2 hkc hrow3 hmk hfit
  refine wp_region_held (S := fun u => Below w.heap.size w u ∧ Boxed u w2.heap.size [.int .i64 t, .int .u16 id]) (by kernel_rfl) ?_
  change wpAnyH _ _ _ _ _ _ _ _ (World.drew w4)
  have hS0 : Hid (Below w.heap.size w (w4.drew) ∧ Boxed w4.drew w2.heap.size [.int .i64 t, .int .u16 id]) := ⟨below_step (below_drew w4) hS.out.1, hS.out.2.below (below_drew w4) (Nat.le_refl _)⟩
  have ra := Lib.hid (ra.out.below (below_drew w4))
  have rb := Lib.hid (rb.out.below (below_drew w4))
  have rk := Lib.hid (rk.out.below (below_drew w4))
  have hA := Lib.hid (hA.out.below (below_drew w4) (Nat.le_refl _))
  have hB := Lib.hid (hB0.out.below (below_drew w4) (Nat.le_refl _))
  have hSz : Hid (w2.heap.size ≤ w4.drew.heap.size) := hSz0.out
  clear hB0 hS hSz0
  generalize World.drew w4 = u0 at hS0 ra rb rk hA hB hSz ⊢
  refine held_tk (i := 0) (dst := some 45) (v := .slice q1 i d1) rfl rfl (.inl ⟨rfl, fun u hu => by obtain ⟨hd, hc⟩ := hu; go_simp⟩) hS0.out ?_; go_frame
  refine held_tk (i := 2) (dst := some 47) (v := .slice (some ⟨g2, 0, none⟩) (kn - i) d2) rfl rfl (.inl ⟨rfl, fun u hu => by obtain ⟨hd, hc⟩ := hu; go_simp⟩) hS0.out ?_; go_frame
  refine held_tk (i := 4) (dst := some 49) (v := .agg #[.int .i64 t, .int .u16 id]) rfl rfl (y_load_agg 28 (.tmp 11) rfl rfl rfl (fun u hu => run_loadVar_at Try.underlying28 rfl hs1 _ hu.2.all)) hS0.out ?_; go_frame
  refine held_call (i := 1) (dst := some 46) rfl rfl (by kernel_rfl) rfl (by go_simp) (innerOf_any q1 i d1 u0) ?_
  rintro e u1 ⟨rfl, h8⟩
  have hS0 := Lib.hid (And.intro (below_step h8 hS0.out.1) (hS0.out.2.below h8 (Nat.le_refl _)))
  have ra := Lib.hid (ra.out.below h8)
  have rb := Lib.hid (rb.out.below h8)
  have rk := Lib.hid (rk.out.below h8)
  have hA := Lib.hid (hA.out.below h8 (Nat.le_refl _))
  have hB := Lib.hid (hB.out.below h8 (Nat.le_refl _))
  have hSz := Lib.hid (Nat.le_trans hSz.out h8.size)
  clear h8
  refine ⟨_, rfl, hS0.out, ?_⟩; go_frame
  refine held_call (i := 3) (dst := some 48) rfl rfl (by kernel_rfl) rfl (by go_simp) (innerOf_any (some ⟨g2, 0, none⟩) (kn - i) d2 u1) ?_
  rintro e u2 ⟨rfl, h8⟩
  have hS0 := Lib.hid (And.intro (below_step h8 hS0.out.1) (hS0.out.2.below h8 (Nat.le_refl _)))
  have ra := Lib.hid (ra.out.below h8)
  have rb := Lib.hid (rb.out.below h8)
  have rk := Lib.hid (rk.out.below h8)
  have hA := Lib.hid (hA.out.below h8 (Nat.le_refl _))
  have hB := Lib.hid (hB.out.below h8 (Nat.le_refl _))
  have hSz := Lib.hid (Nat.le_trans hSz.out h8.size)
  clear h8
  refine ⟨_, rfl, hS0.out, ?_⟩; go_frame
  obtain ⟨x1, hst, h9, hg9⟩ := run_storeVar_at (P := Try.prog) (ty := 25) (o := 0) (vs := [.int .i64 2, .slice none 0 0, .slice q1 i d1]) ra.out (sizeCont _ _ _) (Nat.le_refl _) (cont_one _ _ _ _ _ _ _)
  have ra1 : Hid (RowV 25 x1 (w.heap.size + 1) [.int .i64 2, .slice none 0 0, .slice q1 i d1]) := h9
  have rb1 := Lib.hid (RowV.gr rb.out hg9 (by omega))
  have rk1 := Lib.hid (RowV.gr rk.out hg9 (by omega))
  have hA1 := Lib.hid (hA.out.gr hg9 (hfa.out 1))
  have hB1 := Lib.hid (hB.out.gr hg9 (hfb.out 1))
  have hS1 := Lib.hid (And.intro (Gr.below hg9 hS0.out.1 (by omega)) (hS0.out.2.gr hg9 (by have := hw34.out; omega)))
  have hSz := Lib.hid (Nat.le_trans hSz.out hg9.size)
  clear h9 hg9
  refine held_skip (i := 5) (dst := none) (w' := x1) rfl rfl (by kernel_rfl) rfl (run_store_op rfl rfl rfl hst) hS1.out ?_; go_frame
  clear hst
  obtain ⟨x2, hst, h9, hg9⟩ := run_storeVar_at (P := Try.prog) (ty := 25) (o := 0) (vs := [.int .i64 2, .slice none 0 0, .slice (some ⟨g2, 0, none⟩) (kn - i) d2]) rb1.out (sizeCont _ _ _) (Nat.le_refl _) (cont_one _ _ _ _ _ _ _)
  have rb2 : Hid (RowV 25 x2 (w.heap.size + 2) [.int .i64 2, .slice none 0 0, .slice (some ⟨g2, 0, none⟩) (kn - i) d2]) := h9
  have ra2 := Lib.hid (RowV.gr ra1.out hg9 (by omega))
  have rk2 := Lib.hid (RowV.gr rk1.out hg9 (by omega))
  have hA2 := Lib.hid (hA1.out.gr hg9 (hfa.out 2))
  have hB2 := Lib.hid (hB1.out.gr hg9 (hfb.out 2))
  have hS2 := Lib.hid (And.intro (Gr.below hg9 hS1.out.1 (by omega)) (hS1.out.2.gr hg9 (by have := hw34.out; omega)))
  have hSz := Lib.hid (Nat.le_trans hSz.out hg9.size)
  clear h9 hg9
  refine held_skip (i := 6) (dst := none) (w' := x2) rfl rfl (by kernel_rfl) rfl (run_store_op rfl rfl rfl hst) hS2.out ?_; go_frame
  clear hst
  obtain ⟨x3, hst, h9, hg9⟩ := run_storeVar_at (P := Try.prog) (ty := 28) (o := 0) (vs := [.int .i64 t, .int .u16 id]) rk2.out (sizeKey _ _) (Nat.le_refl _) (by intro v hv; simp only [List.mem_cons, List.not_mem_nil, or_false] at hv; rcases hv with rfl | rfl <;> rfl)
  have rk3 : Hid (RowV 28 x3 (w.heap.size + 3) [.int .i64 t, .int .u16 id]) := h9
  have ra3 := Lib.hid (RowV.gr ra2.out hg9 (by omega))
  have rb3 := Lib.hid (RowV.gr rb2.out hg9 (by omega))
  have hA3 := Lib.hid (hA2.out.gr hg9 (hfa.out 3))
  have hB3 := Lib.hid (hB2.out.gr hg9 (hfb.out 3))
  have hS3 := Lib.hid (And.intro (Gr.below hg9 hS2.out.1 (by omega)) (hS2.out.2.gr hg9 (by have := hw34.out; omega)))
  have hSz := Lib.hid (Nat.le_trans hSz.out hg9.size)
  clear h9 hg9
  refine held_skip (i := 7) (dst := none) (w' := x3) rfl rfl (by kernel_rfl) rfl (run_store_op rfl rfl rfl hst) hS3.out ?_; go_frame
  clear hst
  refine wpAnyH_done (by kernel_rfl) ?_ _
  have s1 := ra3.out
  have s2 := rb3.out
  have s3 := rk3.out
  have m10 := s1.cell 0
  have m20 := s2.cell 0
  have m11 := s1.cell 1
  have m21 := s2.cell 1
  have m12 := s1.cell 2
  have m22 := s2.cell 2
  have m30 := s3.cell 0
  have m31 := s3.cell 1
  simp only [List.getElem?_cons_zero, List.getElem?_cons_succ] at m10 m11 m12 m20 m21 m22 m30 m31
  clear s1 s2 s3
  go_wp2
  refine bodyPost_ret (v := .tuple #[.agg #[.int .i64 2, .slice none 0 0, .slice q1 i d1], .agg #[.int .i64 2, .slice none 0 0, .slice (some ⟨g2, 0, none⟩) (kn - i) d2], .agg #[.int .i64 t, .int .u16 id]]) (by simp [results, Try.results53, go_sem, m10, m11, m12, m20, m21, m22, m30, m31]) rfl ?_
  refine ⟨⟨2, none, 0, 0, q1, i, d1⟩, ⟨2, none, 0, 0, some ⟨g2, 0, none⟩, kn - i, d2⟩, by rw [hcS.out], ?_, ?_, ⟨fun a ha => (by cases ha), fun a ha => ⟨(hl1.out a ha).1, Nat.lt_of_lt_of_le (hl1.out a ha).2 hSz.out⟩⟩, ⟨fun a ha => (by cases ha), fun a ha => by cases ha; exact ⟨by show w.heap.size ≤ g2; omega, Nat.lt_of_lt_of_le hl2.out hSz.out⟩⟩, hS3.out.1⟩
  · rw [hcA.out]; exact ⟨rfl, RowsOn.none_ _, hA3.out⟩
  · rw [hcB.out]; exact ⟨rfl, RowsOn.none_ _, hB3.out⟩
end Go.Proofs.Ytaiepdhmlmnggaa
