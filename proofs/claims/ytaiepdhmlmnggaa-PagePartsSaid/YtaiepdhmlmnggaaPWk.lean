/- The laws on pages: leaf, over, wakes. -/
import Derived.Test.YtaiepdhmlmnggaaPSp
namespace Go.Proofs.Ytaiepdhmlmnggaa
open Go.RowKit

def rowI (i : Int) : RowD := ⟨⟨0, i⟩, 0, ⟨#[]⟩⟩
theorem rowI_ok {i : Int} (h : 0 ≤ i ∧ i < 65536) : RowOk (rowI i) := ⟨⟨zR_ok.key.t, h⟩, zR_ok.val, Nat.zero_le _⟩
theorem rowsI_ok {L : List Int} (h : ∀ i ∈ L, 0 ≤ i ∧ i < 65536) : ∀ r ∈ L.map rowI, RowOk r := fun r hr => by
  obtain ⟨i, hi, rfl⟩ := List.mem_map.1 hr
  exact rowI_ok (h i hi)
set_option maxRecDepth 100000 in
set_option maxHeartbeats 4000000 in
theorem leaf_any (ids : List Int) (n : Nat) (hnl : ids.length = n) (b : Nat) (w : World) (hb : ∀ (k : Nat) (i : Int), ids[k]? = some i → w.cell? ⟨b, k, none⟩ = some (.int .u16 i)) (hid : ∀ i ∈ ids, 0 ≤ i ∧ i < 65536) (hn : n ≤ 100) :
    Calls Try.prog 38 #[.slice (some ⟨b, 0, none⟩) n n] w (fun e w' => ∃ v : CV, e = .returned v.val ∧ v.On w' ⟨1, ids.map rowI, []⟩ ∧ Below w.heap.size w w') := by
  have hbb := Lib.hid hb
  have hid' := Lib.hid hid
  clear hb hid
  go_enter Try.func38, Try.ntmps38
  go_wp2
  have hbx := Lib.hid (two_rows (w := w) (T1 := 25) (T2 := 25) (xs := [.int .i64 0, .slice none 0 0, .slice none 0 0]) (ys := [.int .i64 1, .slice none 0 0, .slice none 0 0]) rfl)
  go_loopw [9] (fun v9 wr => ∃ k : Nat, k ≤ n ∧ v9 = .int .i64 k ∧ ∃ q c, Hid (Below w.heap.size w wr) ∧ Hid (RowV 25 wr w.heap.size [.int .i64 0, .slice none 0 0, .slice none 0 0]) ∧ Hid (RowV 25 wr (w.heap.size + 1) [.int .i64 1, .slice q k c, .slice none 0 0]) ∧ Hid (OwnR 30 wr (w.heap.size + 2) (.slice q k c) ((ids.take k).map rowI))) (fun v9 _ => n - (RowKit.intOf v9).toNat)
  case atStart => exact ⟨0, Nat.zero_le _, rfl, none, 0, hbx.out.1, hbx.out.2.1, hbx.out.2.2.1, OwnR.nil _ _ _⟩
  case round =>
    obtain ⟨k, hk, rfl, q, c, hbr, hr0, hr1, ho⟩ := hrel
    by_cases hlt : k < n
    · obtain ⟨i, hi⟩ : ∃ i, ids[k]? = some i := ⟨_, List.getElem?_eq_getElem (by omega)⟩
      have hib := hid'.out i (List.mem_of_getElem? hi)
      have hib' := Lib.hid hib
      have ci := cell_keeps hbr.out (Nat.le_refl _) (hbb.out k i hi)
      have c1 : wr.cell? ⟨w.heap.size + 1, 1, none⟩ = some (.slice q k c) := by have := hr1.out.cell 1; simpa using this
      have i0 : (0 : Int) ≤ k := by omega
      have i1 : (k : Int) < n := by omega
      have hi' := Lib.hid hi
      obtain ⟨w3, hw3⟩ : ∃ w3, wr.alloc (.cells #[.int .i64 0, .int .u16 i, .int .i64 0, .string ⟨#[]⟩] 30) = w3 := ⟨_, rfl⟩
      have hbs : Hid (Below wr.heap.size wr w3) := by show Below _ _ _; rw [← hw3]; exact (Below.refl _ _).alloc (Nat.le_refl _) _
      have hrow : Hid (RowV 30 w3 wr.heap.size (rowI i).cells) := by show RowV _ _ _ _; rw [← hw3]; exact RowV.made wr (rowI i).cells
      have hr03 := Lib.hid (hr0.out.below hbs.out)
      have hr13 := Lib.hid (hr1.out.below hbs.out)
      have ho3 := Lib.hid (ho.out.below hbs.out)
      have hd3 := Lib.hid (below_step hbs.out hbr.out)
      have hlz : Hid (w.heap.size + 2 ≤ w3.heap.size) := by have h1 := hr1.out.lt; have h2 := hbs.out.size; show _ ≤ _; omega
      clear hib hi
      go_wp2_with (first
        | (at_builtin
           refine wpList_append_r Try.underlying22 infoRow rfl rfl (.tmp 14) (.tmp 18) rfl rfl rfl ho3.out (hrow.out.rows1 (rowI_ok hib'.out)) (by omega) (by omega) hlz.out ?_
           intro q' c' w4 g1 g2 g3
           have hfar : ∀ j, q.map (·.block) = some j → w.heap.size + 2 ≤ j := fun j hj => by
             cases q with
             | none => simp at hj
             | some a => simp at hj; rw [← hj]; exact (ho3.out.far a rfl).1
           have ho4 := Lib.hid g1
           have hd4 := Lib.hid (hd3.out.trans (grown_belowN g2 hd3.out.size (fun j hj => by have := hfar j hj; omega)))
           have hr04 := Lib.hid (hr03.out.block (g2.block _ hr03.out.lt (fun e => by have := hfar _ e.symm; omega)))
           have hr14 := Lib.hid (hr13.out.block (g2.block _ hr13.out.lt (fun e => by have := hfar _ e.symm; omega)))
           have m1 : w4.cell? ⟨w.heap.size + 1, 1, none⟩ = some (.slice q k c) := by have := hr14.out.cell 1; simpa using this
           have f1 := hr14.out.free 1
           obtain ⟨w5, h5⟩ : ∃ x, w4.setCell ⟨w.heap.size + 1, 1, none⟩ (.slice q' (k + 1) c') = x := ⟨_, rfl⟩
           have h5' := Lib.hid h5
           clear g1 g2 g3 hfar c1 ci hw3))
      go_roundw
      case rel =>
        have hg5 := setCell_grown w4 (w.heap.size + 1) 1 (.slice q' (k + 1) c')
        rw [h5'.out] at hg5
        refine ⟨k + 1, by omega, by go_num, q', c', Gr.below hg5 hd4.out (by omega), RowV.gr hr04.out hg5 (by omega), ?_, ?_⟩
        · have h6 := RowV.set hr14.out 1 (.slice q' (k + 1) c')
          rw [h5'.out] at h6
          exact h6
        · have h6 := ho4.out
          rw [List.take_add_one, hi'.out, List.map_append]
          exact h6.kept (fun a ha => hg5.block _ (ho4.out.far a ha).2 (fun e => by have := (ho4.out.far a ha).1; simp only [Option.some.injEq] at e; omega))
      case measure => simp [RowKit.intOf]; omega
    · obtain rfl : n = k := by omega
      have hfar : Hid (∀ a, q = some a → a.block ≠ w.heap.size) := fun a ha => by have := (ho.out.far a ha).1; omega
      have hrows := Lib.hid (ho.out.reads (rowsI_ok (fun i hi => hid'.out i (List.mem_of_mem_take hi))))
      have hs := sizeCont (.int .i64 1) (.slice q n c) (.slice none 0 0)
      go_wp2_with (first
        | (with_reducible refine wpList_load_at rfl 25 (.tmp 3) rfl Try.underlying25 rfl hs rfl hr1.out.boxed.all ?_)
        | ((with_reducible refine wpList_store_at rfl 25 (.tmp 2) (.tmp 22) rfl (o := 0) (vs := [.int .i64 1, .slice q n c, .slice none 0 0]) rfl rfl hr0.out hs (Nat.le_refl _) (cont_one _ _ _ _ _ _ _) ?_)
           intro w9 h9 hg9
           have q9 := Lib.hid h9
           have hg9' := Lib.hid hg9
           clear h9 hg9))
      have s9 : RowV 25 w9 w.heap.size [.int .i64 1, .slice q n c, .slice none 0 0] := q9.out
      have m90 := s9.cell 0
      have m91 := s9.cell 1
      have m92 := s9.cell 2
      simp only [List.getElem?_cons_zero, List.getElem?_cons_succ] at m90 m91 m92
      refine bodyPost_ret (v := .agg #[.int .i64 1, .slice q n c, .slice none 0 0]) (by simp [results, Try.results38, go_sem, m90, m91, m92]) rfl ?_
      refine ⟨⟨1, q, n, c, none, 0, 0⟩, rfl, ⟨rfl, ?_, KidsOn.none_ _⟩, Gr.below hg9'.out hbr.out (Nat.le_refl _)⟩
      have h6 := hrows.out
      rw [List.take_of_length_le (by omega)] at h6
      exact h6.gr hg9'.out hfar.out

def OverP (w : World) (e : Ending) (w' : World) : Prop := ∃ o, e = .returned (.bool o) ∧ Below w.heap.size w w'
set_option maxRecDepth 100000 in
set_option maxHeartbeats 4000000 in
theorem over_any (n b : Nat) (w : World) (hn : n ≤ 100) (hc : ∀ k, k < n → ∃ (v : CV) (c : ContD), v.On w c ∧ ∀ j x, ([.int .i64 v.k, .slice v.rq v.rn v.rc, .slice v.kq v.kn v.kc] : List Value)[j]? = some x → w.cell? ((⟨b, k * 3, none⟩ : Addr).add j) = some x) :
    Calls Try.prog 9 #[.slice (some ⟨b, 0, none⟩) n n] w (OverP w) := by
  have hcc := Lib.hid hc
  clear hc
  go_enter Try.func9, Try.ntmps9
  go_wp2
  go_loopw [9] (fun v9 wr => ∃ k : Nat, k ≤ n ∧ v9 = .int .i64 k ∧ Hid (Below w.heap.size w wr)) (fun v9 _ => n - (RowKit.intOf v9).toNat)
  case atStart => exact ⟨0, Nat.zero_le _, rfl, (show Below _ _ _ from Below.refl _ _)⟩
  case round =>
    obtain ⟨k, hk, rfl, hbr⟩ := hrel
    by_cases hlt : k < n
    · obtain ⟨⟨kk, rq, rn, rc, kq, kn, kc⟩, c, hon, hcell⟩ := hcc.out k hlt
      have hcl : Hid (∀ j x, ([.int .i64 kk, .slice rq rn rc, .slice kq kn kc] : List Value)[j]? = some x → wr.cell? ((⟨b, k * 3, none⟩ : Addr).add j) = some x) := fun j x hj => cell_keeps hbr.out (Nat.le_refl _) (hcell j x hj)
      have hs := sizeCont (.int .i64 kk) (.slice rq rn rc) (.slice kq kn kc)
      have hrows : RowsOn w rq rn rc c.rows := hon.rows
      have hm1 := hon.sm
      simp only at hm1
      unfold maxLen at hm1
      have hon' := Lib.hid hrows
      have i0 : (0 : Int) ≤ k := by omega
      have i1 : (k : Int) < n := by omega
      obtain ⟨W, hW⟩ : ∃ W, wr.alloc (.cells #[.int .i64 kk, .slice rq rn rc, .slice kq kn kc] 25) = W := ⟨_, rfl⟩
      have hbx := Lib.hid (one_box (xs := [.int .i64 kk, .slice rq rn rc, .slice kq kn kc]) hW)
      have hd := Lib.hid (below_step hbx.out.1 hbr.out)
      have c1 := hbx.out.2.1.cell 1 rfl
      have c2 := hbx.out.2.1.cell 2 rfl
      clear hon hcell hrows
      by_cases h20 : 20 < rn
      · have h20' : decide ((20 : Int) < rn) = true := decide_eq_true (by omega)
        go_wp2_with (first
          | (with_reducible refine wpList_load_at rfl 25 (.tmp 11) rfl Try.underlying25 rfl hs rfl hcl.out ?_))
        go_ret
        exact ⟨true, rfl, hd.out⟩
      · have h20' : decide ((20 : Int) < rn) = false := decide_eq_false (by omega)
        by_cases h21 : 20 < kn
        · have h21' : decide ((20 : Int) < kn) = true := decide_eq_true (by omega)
          go_wp2_with (first
            | (with_reducible refine wpList_load_at rfl 25 (.tmp 11) rfl Try.underlying25 rfl hs rfl hcl.out ?_))
          go_ret
          exact ⟨true, rfl, hd.out⟩
        · have h21' : decide ((20 : Int) < kn) = false := decide_eq_false (by omega)
          go_wp2_with (first
            | (with_reducible refine wpList_load_at rfl 25 (.tmp 11) rfl Try.underlying25 rfl hs rfl hcl.out ?_))
          clear hW
          go_loopw [26] (fun v26 wr => ∃ j : Nat, j ≤ rn ∧ v26 = .int .i64 j ∧ Hid (Below w.heap.size w wr)) (fun v26 _ => rn - (RowKit.intOf v26).toNat)
          case atStart => exact ⟨0, Nat.zero_le _, rfl, hd⟩
          case round =>
            obtain ⟨j, hj, rfl, hbj⟩ := hrel
            by_cases hjl : j < rn
            · obtain ⟨A, ⟨⟨t, id⟩, v, s⟩, rfl, hx, hok, hc⟩ := (hon'.out.below hbj.out (Nat.le_refl _)).at hjl
              have hcell : Hid (∀ j' x, ([.int .i64 t, .int .u16 id, .int .i64 v, .string s] : List Value)[j']? = some x → wr.cell? ((A.add (j * 4)).add j') = some x) := hc
              have hsn := hok.note
              unfold maxLen at hsn
              have hs2 := sizeRow t id v s
              have j0 : (0 : Int) ≤ j := by omega
              have j1 : (j : Int) < rn := by omega
              have hb3 := Lib.hid (below_step ((Below.refl _ _).alloc (Nat.le_refl _) (.cells #[.int .i64 t, .int .u16 id, .int .i64 v, .string s] 30)) hbj.out)
              clear hx hok hc
              by_cases hs : 100 < s.size
              · go_wp2_with (first
                  | (with_reducible refine wpList_load_at rfl 30 (.tmp 28) rfl Try.underlying30 rfl hs2 rfl hcell.out ?_))
                go_ret
                exact ⟨true, rfl, hb3.out⟩
              · go_wp2_with (first
                  | (with_reducible refine wpList_load_at rfl 30 (.tmp 28) rfl Try.underlying30 rfl hs2 rfl hcell.out ?_))
                go_roundw
                case rel => exact ⟨j + 1, by omega, by go_num, hb3⟩
                case measure => simp [intOf]; omega
            · obtain rfl : rn = j := by omega
              go_wp2
              go_roundw
              case rel => exact ⟨k + 1, by omega, by go_num, hbj⟩
              case measure => simp [intOf]; omega
    · obtain rfl : n = k := by omega
      go_wp2
      go_ret
      exact ⟨false, rfl, hbr.out⟩

theorem three_rows {w W : World} {T1 T2 T3 : TypeId} {xs ys zs : List Value} (h : ((w.alloc (.cells xs.toArray T1)).alloc (.cells ys.toArray T2)).alloc (.cells zs.toArray T3) = W) : Below w.heap.size w W ∧ RowV T1 W w.heap.size xs ∧ RowV T2 W (w.heap.size + 1) ys ∧ RowV T3 W (w.heap.size + 2) zs ∧ W.heap.size = w.heap.size + 3 := by
  obtain ⟨W2, h2⟩ : ∃ W2, (w.alloc (.cells xs.toArray T1)).alloc (.cells ys.toArray T2) = W2 := ⟨_, rfl⟩
  obtain ⟨b1, b2, b3, b4⟩ := two_rows h2
  rw [h2] at h
  have hb : Below W2.heap.size W2 W := by rw [← h]; exact (Below.refl _ _).alloc (Nat.le_refl _) _
  have h4 := RowV.made (T := T3) W2 zs
  rw [h, b4] at h4
  refine ⟨below_step hb b1, b2.below hb, b3.below hb, h4, ?_⟩
  rw [← h, World.size_alloc, b4]
theorem one_row {w W : World} {T1 : TypeId} {xs : List Value} (h : w.alloc (.cells xs.toArray T1) = W) : Below w.heap.size w W ∧ RowV T1 W w.heap.size xs ∧ W.heap.size = w.heap.size + 1 := by
  have h1 := RowV.made (T := T1) w xs
  rw [h] at h1
  exact ⟨by rw [← h]; exact (Below.refl _ _).alloc (Nat.le_refl _) _, h1, by rw [← h, World.size_alloc]⟩
theorem cut_kind {c : ContD} (hg : GoodC c) (hk : c.kind ≠ 0) (i : Nat) : (cutA c i).kind = c.kind ∧ (cutB c i).kind = c.kind := by
  unfold cutA cutB
  by_cases h : c.kind = 1
  · rw [if_pos h, if_pos h, h]; exact ⟨rfl, rfl⟩
  · have h2 : c.kind = 2 := by rcases good_kind hg with h | h | h <;> omega
    rw [if_neg h, if_neg h, h2]; exact ⟨rfl, rfl⟩
theorem cut_size {c : ContD} (hg : GoodC c) (hk : c.kind ≠ 0) (h4 : sizeC c = 4) : sizeC (cutA c 2) = 2 ∧ sizeC (cutB c 2) = 2 := by
  unfold sizeC at h4
  unfold cutA cutB
  by_cases h : c.kind = 1
  · have h3 := (good_leaf hg h).2
    rw [h3] at h4
    rw [if_pos h, if_pos h]
    simp only [sizeC, List.length_take, List.length_drop, List.length_nil] at h4 ⊢
    omega
  · have h2 : c.kind = 2 := by rcases good_kind hg with h | h | h <;> omega
    have h3 := (good_inner hg h2).2
    rw [h3] at h4
    rw [if_neg h, if_neg h]
    simp only [sizeC, List.length_take, List.length_drop, List.length_nil, leastAt_len] at h4 ⊢
    omega
theorem split_full {c a b : ContD} {s : KeyD} {x : Int} (h : SplitR c a b s x) (hg : GoodC c) (hk : c.kind ≠ 0) (h4 : sizeC c = 4) : x = 0 ∧ a = cutA c 2 ∧ b = cutB c 2 ∧ s = cutS c 2 := by
  rcases h with ⟨h, _⟩ | ⟨_, ⟨h, _⟩ | ⟨_, h⟩⟩
  · exact absurd hg h
  · exact absurd ⟨hk, h4⟩ h
  · exact h
theorem join_back {c d : ContD} {x : Int} (hg : GoodC c) (hk : c.kind ≠ 0) (h4 : sizeC c = 4) (ok : ∀ k ∈ c.kids, KidOk k) (h : JoinR (cutA c 2) (cutB c 2) (cutS c 2) d x) : x = 0 ∧ d = c := by
  have hga := good_cutA hg hk (i := 2) (Nat.le_refl _) (by omega)
  have hgb := good_cutB hg hk ok (i := 2) (by decide) (by omega)
  have hkk := cut_kind hg hk 2
  have hss := cut_size hg hk h4
  have hj := join_cut hg hk 2
  unfold JoinR at h
  rw [hj] at h
  rcases h with ⟨_, h, _⟩ | ⟨_, ⟨h, _⟩ | ⟨_, ⟨h, _⟩ | ⟨_, ⟨h, _⟩ | ⟨_, h⟩⟩⟩⟩
  · exact absurd ⟨hga, hgb⟩ h
  · rcases h with h | h
    · exact absurd (hkk.1.symm.trans h) hk
    · exact absurd (hkk.1.trans hkk.2.symm) h
  · omega
  · exact absurd hg h
  · exact h
theorem cutS_ok {c : ContD} (i : Nat) (h1 : ∀ r ∈ c.rows, RowOk r) (h2 : ∀ k ∈ c.kids, KidOk k) : KeyOk (cutS c i) := by
  unfold cutS
  split
  · cases h : c.rows[i]? with
    | none => exact zK_ok
    | some r => exact (h1 r (List.mem_of_getElem? h)).key
  · cases h : c.kids[i]? with
    | none => exact zK_ok
    | some r => exact (h2 r (List.mem_of_getElem? h)).key

theorem good4 : GoodC (⟨1, ([1, 2, 3, 4] : List Int).map rowI, []⟩ : ContD) := by
  refine (good1 (k := 1) rfl).2 ⟨goodR_iff.2 ⟨by decide, fun r hr => ?_, ?_⟩, rfl⟩
  · obtain ⟨i, hi, rfl⟩ := List.mem_map.1 hr
    simp [chkRowC, rowI, tabB]
    exact Nat.zero_le _
  · simp [rowI, RlR, cmpK, orI, cmpI]
set_option maxRecDepth 100000 in
set_option maxHeartbeats 4000000 in
theorem wakes_any (w : World) : Calls Try.prog 8 #[] w (fun e w' => e = .returned (.bool true) ∧ Below w.heap.size w w') := by
  obtain ⟨W, hW⟩ : ∃ W, w.alloc (.cells #[.int .u16 1, .int .u16 2, .int .u16 3, .int .u16 4] 26) = W := ⟨_, rfl⟩
  have hbx := Lib.hid (one_box (xs := [.int .u16 1, .int .u16 2, .int .u16 3, .int .u16 4]) hW)
  have hle := Lib.hid (leaf_any [1, 2, 3, 4] 4 rfl w.heap.size W (fun k i hi => by
    have h1 := hbx.out.2.1
    match k, hi with
    | 0, hi => cases hi; exact h1.cell 0 rfl
    | 1, hi => cases hi; exact h1.cell 1 rfl
    | 2, hi => cases hi; exact h1.cell 2 rfl
    | 3, hi => cases hi; exact h1.cell 3 rfl
    | k + 4, hi => simp at hi) (by decide) (by decide))
  go_enter Try.func8, Try.ntmps8
  go_wp2_with fail
  refine hle.out.mono ?_
  clear hle hW
  rintro e w1 ⟨⟨k, rq, rn, rc, kq, kn, kc⟩, rfl, hv, hb1⟩
  have hd := Lib.hid (below_step hb1 hbx.out.1)
  have hv' := Lib.hid hv
  simp only [CV.val]
  clear hb1 hbx hv
  go_wp2_with fail
  refine (split_any ⟨k, rq, rn, rc, kq, kn, kc⟩ ⟨1, ([1, 2, 3, 4] : List Int).map rowI, []⟩ w1 hv'.out).mono ?_
  rintro e w2 ⟨⟨ka, rqa, rna, rca, kqa, kna, kca⟩, ⟨kb, rqb, rnb, rcb, kqb, knb, kcb⟩, a, b, s0, x, rfl, hS, ha, hb, hb2⟩
  obtain ⟨rfl, rfl, rfl, rfl⟩ := split_full hS good4 (by decide) rfl
  have hd := Lib.hid (below_step hb2 hd.out)
  have ha := Lib.hid ha
  have hb := Lib.hid hb
  have hra : rna = 2 := ha.out.rl.symm.trans rfl
  subst hra
  have hst : (cutS (⟨1, ([1, 2, 3, 4] : List Int).map rowI, []⟩ : ContD) 2) = ⟨0, 3⟩ := rfl
  have hok := Lib.hid (cutS_ok (c := ⟨1, ([1, 2, 3, 4] : List Int).map rowI, []⟩) 2 (rowsI_ok (by decide)) (fun k hk => by cases hk))
  have hjb := Lib.hid (fun d x (h : JoinR (cutA ⟨1, ([1, 2, 3, 4] : List Int).map rowI, []⟩ 2) (cutB ⟨1, ([1, 2, 3, 4] : List Int).map rowI, []⟩ 2) (cutS ⟨1, ([1, 2, 3, 4] : List Int).map rowI, []⟩ 2) d x) => join_back good4 (by decide) rfl (fun k hk => by cases hk) h)
  rw [hst] at hjb hok ⊢
  obtain ⟨A, hA⟩ : ∃ A, cutA (⟨1, ([1, 2, 3, 4] : List Int).map rowI, []⟩ : ContD) 2 = A := ⟨_, rfl⟩
  obtain ⟨B, hB⟩ : ∃ B, cutB (⟨1, ([1, 2, 3, 4] : List Int).map rowI, []⟩ : ContD) 2 = B := ⟨_, rfl⟩
  rw [hA, hB] at hjb
  rw [hA] at ha
  rw [hB] at hb
  clear hS hv' hA hB hb2 hst
  simp only [CV.val]
  obtain ⟨x0, hx0⟩ : ∃ x, ((w2.alloc (.cells #[.int .i64 0, .slice none 0 0, .slice none 0 0] 25)).alloc (.cells #[.int .i64 0, .slice none 0 0, .slice none 0 0] 25)).alloc (.cells #[.int .i64 0, .int .u16 0] 28) = x := ⟨_, rfl⟩
  have xr := Lib.hid (three_rows (xs := [.int .i64 0, .slice none 0 0, .slice none 0 0]) (ys := [.int .i64 0, .slice none 0 0, .slice none 0 0]) (zs := [.int .i64 0, .int .u16 0]) hx0)
  have xq := Lib.hid xr.out.1
  have xa := Lib.hid xr.out.2.1
  have xb := Lib.hid xr.out.2.2.1
  have xk := Lib.hid xr.out.2.2.2.1
  have xsA := sizeCont (.int .i64 ka) (.slice rqa 2 rca) (.slice kqa kna kca)
  have xsB := sizeCont (.int .i64 kb) (.slice rqb rnb rcb) (.slice kqb knb kcb)
  have xsK := sizeKey 0 3
  clear xr
  go_wp2_with (first
    | ((with_reducible refine wpList_store_at rfl 25 (.tmp 1) (.tmp 11) rfl (o := 0) (vs := [.int .i64 ka, .slice rqa 2 rca, .slice kqa kna kca]) rfl rfl xa.out xsA (Nat.le_refl _) (cont_one _ _ _ _ _ _ _) ?_)
       intro x1 h9 hg9
       have xa : Hid (RowV 25 x1 _ [.int .i64 ka, .slice rqa 2 rca, .slice kqa kna kca]) := h9
       have xb := Lib.hid (RowV.gr xb.out hg9 (by omega))
       have xk := Lib.hid (RowV.gr xk.out hg9 (by omega))
       have xq := Lib.hid (Gr.below hg9 xq.out (by omega))
       clear h9 hg9)
    | ((with_reducible refine wpList_store_at rfl 25 (.tmp 2) (.tmp 12) rfl (o := 0) (vs := [.int .i64 kb, .slice rqb rnb rcb, .slice kqb knb kcb]) rfl rfl xb.out xsB (Nat.le_refl _) (cont_one _ _ _ _ _ _ _) ?_)
       intro x2 h9 hg9
       have xb : Hid (RowV 25 x2 _ [.int .i64 kb, .slice rqb rnb rcb, .slice kqb knb kcb]) := h9
       have xa := Lib.hid (RowV.gr xa.out hg9 (by omega))
       have xk := Lib.hid (RowV.gr xk.out hg9 (by omega))
       have xq := Lib.hid (Gr.below hg9 xq.out (by omega))
       clear h9 hg9)
    | ((with_reducible refine wpList_store_at rfl 28 (.tmp 3) (.tmp 13) rfl (o := 0) (vs := [.int .i64 0, .int .u16 3]) rfl rfl xk.out xsK (Nat.le_refl _) (key_one _ _) ?_)
       intro x3 h9 hg9
       have xk : Hid (RowV 28 x3 _ [.int .i64 0, .int .u16 3]) := h9
       have xa := Lib.hid (RowV.gr xa.out hg9 (by omega))
       have xb := Lib.hid (RowV.gr xb.out hg9 (by omega))
       have xq := Lib.hid (Gr.below hg9 xq.out (by omega))
       clear h9 hg9)
    | (with_reducible refine wpList_load_at rfl 25 (.tmp 1) rfl Try.underlying25 rfl xsA rfl xa.out.boxed.all ?_)
    | (with_reducible refine wpList_load_at rfl 25 (.tmp 2) rfl Try.underlying25 rfl xsB rfl xb.out.boxed.all ?_)
    | (with_reducible refine wpList_load_at rfl 28 (.tmp 3) rfl Try.underlying28 rfl xsK rfl xk.out.boxed.all ?_))
  have xk0 := Lib.hid xk.out.lt
  refine (join_any ⟨ka, rqa, 2, rca, kqa, kna, kca⟩ ⟨kb, rqb, rnb, rcb, kqb, knb, kcb⟩ A B 0 3 x3 (ha.out.below xq.out (Nat.le_refl _)) (hb.out.below xq.out (Nat.le_refl _)) hok.out).mono ?_
  rintro e w4 ⟨⟨kj, rqj, rnj, rcj, kqj, knj, kcj⟩, d, x, rfl, hJ, hj, hb4⟩
  obtain ⟨rfl, rfl⟩ := hjb.out _ _ hJ
  have hd := Lib.hid (below_step hb4 (below_step xq.out hd.out))
  have xa := Lib.hid (xa.out.below hb4)
  have xb := Lib.hid (xb.out.below hb4)
  have xk := Lib.hid (xk.out.below hb4)
  have hj := Lib.hid hj
  have hrj : rnj = 4 := hj.out.rl.symm.trans rfl
  subst hrj
  have hfu := Lib.hid (fun u (hu : Below w4.heap.size w4 u) => full_any ⟨kj, rqj, 4, rcj, kqj, knj, kcj⟩ _ true ⟨fun _ => ⟨⟨good4, by decide⟩, rfl⟩, fun _ => rfl⟩ u (hj.out.below hu (Nat.le_refl _)))
  obtain ⟨y0, hy0⟩ : ∃ x, w4.alloc (.cells #[.int .i64 0, .slice none 0 0, .slice none 0 0] 25) = x := ⟨_, rfl⟩
  have yr := Lib.hid (one_row (xs := [.int .i64 0, .slice none 0 0, .slice none 0 0]) hy0)
  have xa := Lib.hid (xa.out.below yr.out.1)
  have xk := Lib.hid (xk.out.below yr.out.1)
  have yj := Lib.hid yr.out.2.1
  have yq := Lib.hid yr.out.1
  have ysJ := sizeCont (.int .i64 kj) (.slice rqj 4 rcj) (.slice kqj knj kcj)
  have hlt : Hid (w2.heap.size + 2 < w4.heap.size) := Nat.lt_of_lt_of_le xk0.out hb4.size
  clear hJ hjb hok ha hb hb4 xb yr
  simp only [CV.val]
  go_wp2_with (first
    | ((with_reducible refine wpList_store_at rfl 25 (.tmp 5) (.tmp 20) rfl (o := 0) (vs := [.int .i64 kj, .slice rqj 4 rcj, .slice kqj knj kcj]) rfl rfl yj.out ysJ (Nat.le_refl _) (cont_one _ _ _ _ _ _ _) ?_)
       intro y1 h9 hg9
       have yj : Hid (RowV 25 y1 _ [.int .i64 kj, .slice rqj 4 rcj, .slice kqj knj kcj]) := h9
       have xa := Lib.hid (RowV.gr xa.out hg9 (by have := hlt.out; omega))
       have xk := Lib.hid (RowV.gr xk.out hg9 (by have := hlt.out; omega))
       have yq := Lib.hid (Gr.below hg9 yq.out (Nat.le_refl _))
       have a1 := xa.out.boxed.cell 1 rfl
       have k1 := xk.out.boxed.cell 1 rfl
       have j0 := yj.out.boxed.cell 0 rfl
       have j1 := yj.out.boxed.cell 1 rfl
       have j2 := yj.out.boxed.cell 2 rfl
       clear h9 hg9))
  refine (hfu.out _ yq.out).mono ?_
  rintro e w6 ⟨rfl, hb6⟩
  have hd6 := Lib.hid (below_step hb6 (below_step yq.out hd.out))
  clear hb6 hfu a1 k1 j0 j1 j2
  go_wp2
  go_ret
  exact ⟨rfl, hd6.out⟩
end Go.Proofs.Ytaiepdhmlmnggaa
