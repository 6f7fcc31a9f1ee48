/- settled (bursaryref02), by its contract: the loop. -/
import Derived.Test.YtnjandmlhncapaaRefSt
namespace Go.Proofs.Ytnjandmlhncapaa
open Go.RowKit

theorem half_skip (g : Nat → Bool) {S : List Sc} {i : Nat} {s : Sc} (h : S[i]? = some s) (hs : s.is = false) : half g S (i + 1) = half g S i := by
  rw [half_next g h, if_neg (by rw [hs]; decide)]
  have ha := half_at g h
  apply List.ext_getElem?
  intro k
  rw [List.getElem?_set]
  by_cases hk : i = k
  · subst hk
    rw [if_pos rfl, if_pos (List.getElem?_eq_some_iff.1 ha).1, ha]
  · rw [if_neg hk]
theorem splice_over {cs e x : List Value} {o : Nat} (hl : x.length = e.length) (hf : o + e.length ≤ cs.length) : splice (splice cs o e) o x = splice cs o x := by
  have h1 : (cs.take o).length = o := by rw [List.length_take]; omega
  unfold splice
  rw [List.take_left' h1, hl, ← List.append_assoc (cs.take o) e (cs.drop (o + e.length)), List.drop_left' (by rw [List.length_append, h1])]
theorem splice_get {cs e : List Value} {o : Nat} (hf : o + e.length ≤ cs.length) {j : Nat} {v : Value} (h : e[j]? = some v) : (splice cs o e)[o + j]? = some v := by
  have h1 : (cs.take o).length = o := by rw [List.length_take]; omega
  have hj := (List.getElem?_eq_some_iff.1 h).1
  unfold splice
  rw [List.getElem?_append_right (by omega), h1, Nat.add_sub_cancel_left, List.getElem?_append_left hj, h]
theorem splice_held {cs H C : List Value} {o : Nat} (hH : Blk H) (hC : Blk C) (hf : o + 129 ≤ cs.length) : splice (splice cs o (secV H (blk 0) false)) o C = splice cs o (secV C (blk 0) false) := by
  have l1 : (secV H (blk 0) false).length = 129 := sec_len hH (blk_blk 0)
  have l2 : (secV C (blk 0) false).length = 129 := sec_len hC (blk_blk 0)
  have e := splice_part (cs := splice cs o (H ++ (blk 0 ++ [.bool false]))) (old := H) (b := C) (rest := blk 0 ++ [.bool false]) (o := o) (by rw [hC.1, hH.1]) (fun j v h => splice_get (by have l3 : (H ++ (blk 0 ++ [Value.bool false])).length = 129 := l1; omega) h)
  show splice (splice cs o (H ++ (blk 0 ++ [.bool false]))) o C = _
  rw [e]
  have l3 : (H ++ (blk 0 ++ [Value.bool false])).length = 129 := l1
  have l4 : (C ++ (blk 0 ++ [Value.bool false])).length = 129 := l2
  exact splice_over (by omega) (by omega)

set_option maxRecDepth 100000 in
set_option maxHeartbeats 4000000 in
theorem settled_any (q0 : Option Addr) (c0 : Nat) (ops armed failing : Int) (dead al : Bool) (kq : Option Addr) (kc : Nat) (ks : List Bool) (S : List Sc) (w : World) (hv : HoldsE w (.slice q0 S.length c0) (S.map Sc.cells)) (hS : ∀ s ∈ S, s.Ok) (hn : S.length ≤ 4096) (hkv : KeepW w (.slice kq ks.length kc) ks) :
    Calls Try.prog 44 #[.agg #[.slice q0 S.length c0, .int .i64 ops, .int .i64 armed, .int .i64 failing, .bool dead], .bool al, .slice kq ks.length kc] w (StPost w S.length (stl (kept al ks) 0 S) ops armed failing dead) := by
  obtain ⟨n, hnS⟩ : ∃ n, S.length = n := ⟨_, rfl⟩
  obtain ⟨hm0, hkn, hkc⟩ : ks.length ≤ maxLen ∧ (kq = none → ks = []) ∧ ∀ a, kq = some a → ∀ j x, ks[j]? = some x → w.cell? (a.add j) = some (.bool x) := by
    obtain ⟨q', c', he, hm, h0, h1⟩ := hkv
    simp only [Value.slice.injEq] at he
    obtain ⟨rfl, _, rfl⟩ := he
    exact ⟨hm, h0, h1⟩
  have hm : ks.length < 9223372036854775808 := by unfold maxLen at hm0; omega
  have hv0 := Lib.hid hv
  have hS0 := Lib.hid hS
  have hE0 := Lib.hid (each_ok hS)
  have hnS' := Lib.hid hnS
  have hkn' := Lib.hid hkn
  have hkc' := Lib.hid hkc
  obtain ⟨kl, hkl⟩ : ∃ kl, ks.length = kl := ⟨_, rfl⟩
  have hkl' := Lib.hid hkl
  rw [hkl] at hm ⊢
  rw [hnS] at hn ⊢
  have hv1 : Hid (HoldsE w (.slice q0 n c0) (S.map Sc.cells)) := by have := hv0.out; rw [hnS] at this; exact this
  clear hv hS hkv hm0 hnS hkn hkc hkl hv0
  obtain ⟨hb0, hd0, hz0⟩ := st_start w (dL q0 n c0 ops armed failing dead) (dL none 0 0 0 0 0 false)
  have hb1 := Lib.hid (hb0.alloc hb0.size (.cells #[] 47))
  have hd1 := Lib.hid (hd0.block (w' := (((w.alloc (.cells (dL q0 n c0 ops armed failing dead).toArray 31)).alloc (.cells (dL none 0 0 0 0 0 false).toArray 31)).alloc (.cells #[] 47))) (heap_alloc_old _ _ hd0.lt))
  have hz1 := Lib.hid (hz0.block (w' := (((w.alloc (.cells (dL q0 n c0 ops armed failing dead).toArray 31)).alloc (.cells (dL none 0 0 0 0 0 false).toArray 31)).alloc (.cells #[] 47))) (heap_alloc_old _ _ hz0.lt))
  have ho1 : Hid (OwnE 47 129 (((w.alloc (.cells (dL q0 n c0 ops armed failing dead).toArray 31)).alloc (.cells (dL none 0 0 0 0 0 false).toArray 31)).alloc (.cells #[] 47)) (w.heap.size + 1 + 1) (.slice (some ⟨w.heap.size + 1 + 1, 0, none⟩) 0 0) []) := by
    have h := OwnE.empty (T := 47) (s := 129) (w := ((w.alloc (.cells (dL q0 n c0 ops armed failing dead).toArray 31)).alloc (.cells (dL none 0 0 0 0 0 false).toArray 31))) (base := w.heap.size + 1 + 1) (by simp)
    rw [World.size_alloc, World.size_alloc] at h
    exact h
  have c00 : (((w.alloc (.cells (dL q0 n c0 ops armed failing dead).toArray 31)).alloc (.cells (dL none 0 0 0 0 0 false).toArray 31)).alloc (.cells #[] 47)).cell? ⟨w.heap.size, 0, none⟩ = some (.slice q0 n c0) := hd1.out.cell 0
  clear hb0 hd0 hz0
  go_enter Try.func44, Try.ntmps44
  have hv2 := Lib.hid (holdsE_below hv1.out hb1.out (Nat.le_refl _))
  go_wp2_with (first
    | ((with_reducible refine wpList_append_elems Try.underlying29 info47 zero47 (by decide) rfl (.tmp 11) (.tmp 13) rfl rfl rfl ho1.out hv2.out hE0.out (by omega) (by omega) (by simp) ?_)
       intro q2 c2 w2 ho hg))
  have hown2 : OwnE 47 129 w2 (w.heap.size + 1 + 1) (.slice q2 n c2) (S.map Sc.cells) := by rw [Nat.zero_add, List.nil_append] at ho; exact ho
  have hg2 : World.grownBy _ w2 (some (w.heap.size + 1 + 1)) := hg
  have hr0 : Hid (StRel w w2 (dL q0 n c0 ops armed failing dead) (dL none 0 0 0 0 0 false) q2 n c2 (half (kept al ks) S 0)) := by
    show StRel _ _ _ _ _ _ _ _
    rw [half_zero]
    exact ⟨hb1.out.grown hg2 hb1.out.size (fun k e => by have := Option.some.inj e; omega), hd1.out.kept hg2 (by omega), hz1.out.kept hg2 (by omega), hown2⟩
  clear ho hg hg2 ho1 hown2 hb1 hd1 hz1 c00

  go_loopw [8, 17] (fun v8 v17 wr => ∃ i : Nat, i ≤ n ∧ v8 = .int .i64 (cnt (S.take i) : Nat) ∧ v17 = .int .i64 i ∧ Hid (StRel w wr (dL q0 n c0 ops armed failing dead) (dL none 0 0 0 0 0 false) q2 n c2 (half (kept al ks) S i))) (fun _ v17 _ => n - (intOf v17).toNat)
  case atStart => exact ⟨0, by omega, by go_num, by go_num, hr0⟩
  case round =>
    obtain ⟨i, hi, rfl, rfl, hr⟩ := hrel
    by_cases hlt : i < n
    · obtain ⟨s, hs⟩ : ∃ s, S[i]? = some s := ⟨_, List.getElem?_eq_getElem (by have := hnS'.out; omega)⟩
      have hOk := hS0.out s (List.mem_of_getElem? hs)
      have hnx := Lib.hid (half_next (kept al ks) hs)
      have hcn := Lib.hid (cnt_next hs)
      have hsk := Lib.hid (half_skip (kept al ks) hs)
      obtain ⟨g, cs, hq2, hgb, hgl, hrow0, hcel0, hfit0, hput0⟩ := hr.out.put hlt (half_at (kept al ks) hs) (half_ok hS0.out i)
      subst hq2
      have hrow := Lib.hid hrow0
      have hcel := Lib.hid hcel0
      have hfit := Lib.hid hfit0
      have hput := Lib.hid hput0
      obtain ⟨H, C, is⟩ := s
      have hcel2 : Hid (∀ j v, (secV H C is)[j]? = some v → wr.cell? ((⟨g, i * 129, none⟩ : Addr).add j) = some v) := hcel
      have hH := Lib.hid hOk.1
      have hC := Lib.hid hOk.2
      have hkb := cnt_le S i
      rw [hnS'.out] at hkb
      obtain ⟨k, hk⟩ : ∃ k, cnt (S.take i) = k := ⟨_, rfl⟩
      rw [hk] at hkb hcn hnx ⊢
      have rz : Hid (RowV 47 (wr.alloc (.cells (secV (blk 0) (blk 0) false).toArray 47)) wr.heap.size (secV (blk 0) (blk 0) false)) := RowV.made wr _
      clear hs hOk hrow0 hcel0 hfit0 hput0 hk hr0
      cases is with
      | false =>
        go_wp2_with (first
          | (with_reducible refine wpList_load_at rfl 47 (.tmp 20) rfl Try.underlying47 rfl (vs := secV H C false) (sec_size hH.out hC.out) rfl hcel2.out ?_)
          | (with_reducible refine wpList_alloc_z rfl 47 rfl alloc47 ?_)
          | ((with_reducible refine wpList_store_at rfl 47 (.tmp 10) (.tmp 21) rfl (o := 0) rfl rfl rz.out (sec_size hH.out hC.out) (sec_fits hH.out hC.out (blk_blk 0) (blk_blk 0)) (sec_one hH.out hC.out) ?_)
             intro w6 h6 hg6
             rw [sec_splice hH.out hC.out (blk_blk 0) (blk_blk 0)] at h6
             have cis : w6.cell? ⟨wr.heap.size, 128, none⟩ = some (.bool false) := by
               rw [h6.cell 128]
               unfold secV
               rw [List.getElem?_append_right (by rw [hH.out.1]; decide), hH.out.1, List.getElem?_append_right (by rw [hC.out.1]; decide), hC.out.1]
               rfl
             have b6 : Below wr.heap.size wr w6 := ((Below.refl _ _).alloc (Nat.le_refl _) _).grown hg6 (by rw [World.size_alloc]; omega) (fun j e => by have := Option.some.inj e; omega)
             have t6 := Lib.hid b6
             have x6 := Lib.hid h6
             clear h6 hg6 b6))
        go_roundw
        case rel =>
          refine ⟨i + 1, by omega, ?_, by go_num, ?_⟩
          · rw [hcn.out]; rfl
          · show StRel _ _ _ _ _ _ _ _
            rw [hsk.out rfl]
            exact hr.out.stay t6.out
        case measure => simp [intOf]; omega
      | true =>
        cases al with
        | true =>
          have hkp : kept true ks k = true := rfl
          go_wp2_with (first
            | (with_reducible refine wpList_load_at rfl 47 (.tmp 20) rfl Try.underlying47 rfl (vs := secV H C true) (sec_size hH.out hC.out) rfl hcel2.out ?_)
            | (with_reducible refine wpList_alloc_z rfl 47 rfl alloc47 ?_)
            | ((with_reducible refine wpList_store_at rfl 47 (.tmp 10) (.tmp 21) rfl (o := 0) rfl rfl rz.out (sec_size hH.out hC.out) (sec_fits hH.out hC.out (blk_blk 0) (blk_blk 0)) (sec_one hH.out hC.out) ?_)
               intro w6 h6 hg6
               rw [sec_splice hH.out hC.out (blk_blk 0) (blk_blk 0)] at h6
               have cis : w6.cell? ⟨wr.heap.size, 128, none⟩ = some (.bool true) := by
                 rw [h6.cell 128]
                 unfold secV
                 rw [List.getElem?_append_right (by rw [hH.out.1]; decide), hH.out.1, List.getElem?_append_right (by rw [hC.out.1]; decide), hC.out.1]
                 rfl
               have b6 : Below wr.heap.size wr w6 := ((Below.refl _ _).alloc (Nat.le_refl _) _).grown hg6 (by rw [World.size_alloc]; omega) (fun j e => by have := Option.some.inj e; omega)
               have t6 := Lib.hid b6
               have x6 := Lib.hid h6
               clear h6 hg6 b6)
            | (with_reducible refine wpList_load_at rfl 37 (.tmp 27) rfl Try.underlying37 rfl (vs := H) hH.out.size rfl (x6.out.part (o := 0) (pre := []) (rest := C ++ [.bool true]) rfl rfl) ?_)
            | (refine wpList_build_sec rfl rfl rfl hH.out ?_)
            | ((with_reducible refine wpList_store_at rfl 47 (.tmp 30) (.tmp 29) rfl (o := i * 129) rfl rfl (hrow.out.below t6.out) (sec_size hH.out (blk_blk 0)) (by rw [sec_len hH.out (blk_blk 0)]; exact hfit.out) (sec_one hH.out (blk_blk 0)) ?_)
               intro w7 h7 hg7
               have t7 := Lib.hid ((Tch.of_below t6.out [g]).grown hg7 (.inl (by simp)))
               have x7 := Lib.hid h7
               have y7 := Lib.hid (x6.out.kept hg7 (by omega))
               clear h7 hg7)
            | (with_reducible refine wpList_load_at rfl 37 (.tmp 46) rfl Try.underlying37 rfl (vs := C) hC.out.size rfl (y7.out.part (o := 64) (pre := H) (rest := [.bool true]) rfl hH.out.len) ?_)
            | ((with_reducible refine wpList_store_at rfl 37 (.tmp 49) (.tmp 47) rfl (o := i * 129) rfl rfl x7.out hC.out.size (by rw [hC.out.len, length_splice _ _ _ (by rw [sec_len hH.out (blk_blk 0)]; exact hfit.out)]; have := hfit.out; omega) hC.out.one ?_)
               intro w8 h8 hg8
               rw [splice_held hH.out hC.out hfit.out] at h8
               have t8 := Lib.hid (t7.out.grown hg8 (.inl (by simp)))
               have x8 := Lib.hid h8
               clear h8 hg8))
          go_roundw
          case rel =>
            refine ⟨i + 1, by omega, ?_, by go_num, ?_⟩
            · rw [hcn.out]; go_num
            · show StRel _ _ _ _ _ _ _ _
              rw [hnx.out]
              simp only [hkp, if_true]
              exact hput.out ⟨C, blk 0, false⟩ ⟨hC.out, blk_blk 0⟩ _ x8.out t8.out
          case measure => simp [intOf]; omega
        | false =>
          by_cases hkk : k < kl
          · obtain ⟨kb, hkb0⟩ : ∃ kb, ks[k]? = some kb := ⟨_, List.getElem?_eq_getElem (by have := hkl'.out; omega)⟩
            obtain ⟨ka, rfl⟩ : ∃ ka, kq = some ka := by
              cases kq with
              | none =>
                have h2 := hkn'.out rfl
                rw [h2] at hkb0
                simp at hkb0
              | some ka => exact ⟨ka, rfl⟩
            have hck := Lib.hid (hkc'.out ka rfl k kb hkb0)
            have hkp : kept false ks k = kb := by unfold kept; rw [hkb0]; rfl
            have j0 : (0 : Int) ≤ (k : Int) := by omega
            have j1 : (k : Int) < (kl : Int) := by omega
            clear hkb0
            cases kb with
            | false =>
              go_wp2_with (first
                | (with_reducible refine wpList_load_at rfl 47 (.tmp 20) rfl Try.underlying47 rfl (vs := secV H C true) (sec_size hH.out hC.out) rfl hcel2.out ?_)
                | (with_reducible refine wpList_alloc_z rfl 47 rfl alloc47 ?_)
                | ((with_reducible refine wpList_store_at rfl 47 (.tmp 10) (.tmp 21) rfl (o := 0) rfl rfl rz.out (sec_size hH.out hC.out) (sec_fits hH.out hC.out (blk_blk 0) (blk_blk 0)) (sec_one hH.out hC.out) ?_)
                   intro w6 h6 hg6
                   rw [sec_splice hH.out hC.out (blk_blk 0) (blk_blk 0)] at h6
                   have cis : w6.cell? ⟨wr.heap.size, 128, none⟩ = some (.bool true) := by
                     rw [h6.cell 128]
                     unfold secV
                     rw [List.getElem?_append_right (by rw [hH.out.1]; decide), hH.out.1, List.getElem?_append_right (by rw [hC.out.1]; decide), hC.out.1]
                     rfl
                   have b6 : Below wr.heap.size wr w6 := ((Below.refl _ _).alloc (Nat.le_refl _) _).grown hg6 (by rw [World.size_alloc]; omega) (fun j e => by have := Option.some.inj e; omega)
                   have t6 := Lib.hid b6
                   have x6 := Lib.hid h6
                   clear h6 hg6 b6)
                | (with_reducible refine wpList_load_at rfl 37 (.tmp 27) rfl Try.underlying37 rfl (vs := H) hH.out.size rfl (x6.out.part (o := 0) (pre := []) (rest := C ++ [.bool true]) rfl rfl) ?_)
                | (refine wpList_build_sec rfl rfl rfl hH.out ?_)
                | ((with_reducible refine wpList_store_at rfl 47 (.tmp 30) (.tmp 29) rfl (o := i * 129) rfl rfl (hrow.out.below t6.out) (sec_size hH.out (blk_blk 0)) (by rw [sec_len hH.out (blk_blk 0)]; exact hfit.out) (sec_one hH.out (blk_blk 0)) ?_)
                   intro w7 h7 hg7
                   have t7 := Lib.hid ((Tch.of_below t6.out [g]).grown hg7 (.inl (by simp)))
                   have x7 := Lib.hid h7
                   have y7 := Lib.hid (x6.out.kept hg7 (by omega))
                   have ck : w7.cell? (ka.add k) = some (.bool false) := by
                     rw [World.cell?_of_block (w := w) (((hr.out.below.trans ((t6.out).mono hr.out.below.size)).grown hg7 (hr.out.below.trans ((t6.out).mono hr.out.below.size)).size (fun j e => by have := Option.some.inj e; omega)).block _ (cell_lt hck.out))]
                     exact hck.out
                   clear h7 hg7))
              go_roundw
              case rel =>
                refine ⟨i + 1, by omega, ?_, by go_num, ?_⟩
                · rw [hcn.out]; go_num
                · show StRel _ _ _ _ _ _ _ _
                  rw [hnx.out]
                  simp only [hkp, if_true]
                  exact hput.out ⟨H, blk 0, false⟩ ⟨hH.out, blk_blk 0⟩ _ x7.out t7.out
              case measure => simp [intOf]; omega
            | true =>
              go_wp2_with (first
                | (with_reducible refine wpList_load_at rfl 47 (.tmp 20) rfl Try.underlying47 rfl (vs := secV H C true) (sec_size hH.out hC.out) rfl hcel2.out ?_)
                | (with_reducible refine wpList_alloc_z rfl 47 rfl alloc47 ?_)
                | ((with_reducible refine wpList_store_at rfl 47 (.tmp 10) (.tmp 21) rfl (o := 0) rfl rfl rz.out (sec_size hH.out hC.out) (sec_fits hH.out hC.out (blk_blk 0) (blk_blk 0)) (sec_one hH.out hC.out) ?_)
                   intro w6 h6 hg6
                   rw [sec_splice hH.out hC.out (blk_blk 0) (blk_blk 0)] at h6
                   have cis : w6.cell? ⟨wr.heap.size, 128, none⟩ = some (.bool true) := by
                     rw [h6.cell 128]
                     unfold secV
                     rw [List.getElem?_append_right (by rw [hH.out.1]; decide), hH.out.1, List.getElem?_append_right (by rw [hC.out.1]; decide), hC.out.1]
                     rfl
                   have b6 : Below wr.heap.size wr w6 := ((Below.refl _ _).alloc (Nat.le_refl _) _).grown hg6 (by rw [World.size_alloc]; omega) (fun j e => by have := Option.some.inj e; omega)
                   have t6 := Lib.hid b6
                   have x6 := Lib.hid h6
                   clear h6 hg6 b6)
                | (with_reducible refine wpList_load_at rfl 37 (.tmp 27) rfl Try.underlying37 rfl (vs := H) hH.out.size rfl (x6.out.part (o := 0) (pre := []) (rest := C ++ [.bool true]) rfl rfl) ?_)
                | (refine wpList_build_sec rfl rfl rfl hH.out ?_)
                | ((with_reducible refine wpList_store_at rfl 47 (.tmp 30) (.tmp 29) rfl (o := i * 129) rfl rfl (hrow.out.below t6.out) (sec_size hH.out (blk_blk 0)) (by rw [sec_len hH.out (blk_blk 0)]; exact hfit.out) (sec_one hH.out (blk_blk 0)) ?_)
                   intro w7 h7 hg7
                   have t7 := Lib.hid ((Tch.of_below t6.out [g]).grown hg7 (.inl (by simp)))
                   have x7 := Lib.hid h7
                   have y7 := Lib.hid (x6.out.kept hg7 (by omega))
                   have ck : w7.cell? (ka.add k) = some (.bool true) := by
                     rw [World.cell?_of_block (w := w) (((hr.out.below.trans ((t6.out).mono hr.out.below.size)).grown hg7 (hr.out.below.trans ((t6.out).mono hr.out.below.size)).size (fun j e => by have := Option.some.inj e; omega)).block _ (cell_lt hck.out))]
                     exact hck.out
                   clear h7 hg7)
                | (with_reducible refine wpList_load_at rfl 37 (.tmp 46) rfl Try.underlying37 rfl (vs := C) hC.out.size rfl (y7.out.part (o := 64) (pre := H) (rest := [.bool true]) rfl hH.out.len) ?_)
                | ((with_reducible refine wpList_store_at rfl 37 (.tmp 49) (.tmp 47) rfl (o := i * 129) rfl rfl x7.out hC.out.size (by rw [hC.out.len, length_splice _ _ _ (by rw [sec_len hH.out (blk_blk 0)]; exact hfit.out)]; have := hfit.out; omega) hC.out.one ?_)
                   intro w8 h8 hg8
                   rw [splice_held hH.out hC.out hfit.out] at h8
                   have t8 := Lib.hid (t7.out.grown hg8 (.inl (by simp)))
                   have x8 := Lib.hid h8
                   clear h8 hg8))
              go_roundw
              case rel =>
                refine ⟨i + 1, by omega, ?_, by go_num, ?_⟩
                · rw [hcn.out]; go_num
                · show StRel _ _ _ _ _ _ _ _
                  rw [hnx.out]
                  simp only [hkp, if_true]
                  exact hput.out ⟨C, blk 0, false⟩ ⟨hC.out, blk_blk 0⟩ _ x8.out t8.out
              case measure => simp [intOf]; omega
          · have hkp : kept false ks k = false := by
              unfold kept
              rw [List.getElem?_eq_none (by have := hkl'.out; omega)]; rfl
            have j1 : (kl : Int) ≤ (k : Int) := by omega
            go_wp2_with (first
              | (with_reducible refine wpList_load_at rfl 47 (.tmp 20) rfl Try.underlying47 rfl (vs := secV H C true) (sec_size hH.out hC.out) rfl hcel2.out ?_)
              | (with_reducible refine wpList_alloc_z rfl 47 rfl alloc47 ?_)
              | ((with_reducible refine wpList_store_at rfl 47 (.tmp 10) (.tmp 21) rfl (o := 0) rfl rfl rz.out (sec_size hH.out hC.out) (sec_fits hH.out hC.out (blk_blk 0) (blk_blk 0)) (sec_one hH.out hC.out) ?_)
                 intro w6 h6 hg6
                 rw [sec_splice hH.out hC.out (blk_blk 0) (blk_blk 0)] at h6
                 have cis : w6.cell? ⟨wr.heap.size, 128, none⟩ = some (.bool true) := by
                   rw [h6.cell 128]
                   unfold secV
                   rw [List.getElem?_append_right (by rw [hH.out.1]; decide), hH.out.1, List.getElem?_append_right (by rw [hC.out.1]; decide), hC.out.1]
                   rfl
                 have b6 : Below wr.heap.size wr w6 := ((Below.refl _ _).alloc (Nat.le_refl _) _).grown hg6 (by rw [World.size_alloc]; omega) (fun j e => by have := Option.some.inj e; omega)
                 have t6 := Lib.hid b6
                 have x6 := Lib.hid h6
                 clear h6 hg6 b6)
              | (with_reducible refine wpList_load_at rfl 37 (.tmp 27) rfl Try.underlying37 rfl (vs := H) hH.out.size rfl (x6.out.part (o := 0) (pre := []) (rest := C ++ [.bool true]) rfl rfl) ?_)
              | (refine wpList_build_sec rfl rfl rfl hH.out ?_)
              | ((with_reducible refine wpList_store_at rfl 47 (.tmp 30) (.tmp 29) rfl (o := i * 129) rfl rfl (hrow.out.below t6.out) (sec_size hH.out (blk_blk 0)) (by rw [sec_len hH.out (blk_blk 0)]; exact hfit.out) (sec_one hH.out (blk_blk 0)) ?_)
                 intro w7 h7 hg7
                 have t7 := Lib.hid ((Tch.of_below t6.out [g]).grown hg7 (.inl (by simp)))
                 have x7 := Lib.hid h7
                 have y7 := Lib.hid (x6.out.kept hg7 (by omega))
                 clear h7 hg7))
            go_roundw
            case rel =>
              refine ⟨i + 1, by omega, ?_, by go_num, ?_⟩
              · rw [hcn.out]; go_num
              · show StRel _ _ _ _ _ _ _ _
                rw [hnx.out]
                simp only [hkp, if_true]
                exact hput.out ⟨H, blk 0, false⟩ ⟨hH.out, blk_blk 0⟩ _ x7.out t7.out
            case measure => simp [intOf]; omega
    · obtain rfl : n = i := by omega
      have hr1 := hr.out
      rw [show half (kept al ks) S n = stl (kept al ks) 0 S by rw [← hnS'.out]; exact half_all _ _] at hr1
      have d0 : wr.cell? ⟨w.heap.size, 0, none⟩ = some (.slice q0 n c0) := hr1.d.cell 0
      have f0 := hr1.d.free 0
      have hg3 := setCell_grown wr w.heap.size 0 (.slice q2 n c2)
      have d3 : Hid (RowV 31 (wr.setCell ⟨w.heap.size, 0, none⟩ (.slice q2 n c2)) w.heap.size (dL q2 n c2 ops armed failing dead)) := hr1.d.set 0 (.slice q2 n c2)
      have z3 := Lib.hid (hr1.z.kept hg3 (by omega))
      have b3 := Lib.hid (hr1.below.grown hg3 hr1.below.size (fun j e => by have := Option.some.inj e; omega))
      have o3 := Lib.hid (hr1.own.kept (w' := wr.setCell ⟨w.heap.size, 0, none⟩ (.slice q2 n c2)) fun a ha => hg3.block _ (hr1.own.holds.2.2 a ha).2 (fun e => by
        have := Option.some.inj e
        have := (hr1.own.holds.2.2 a ha).1
        omega))
      clear hr hr0 hr1 hg3
      go_wp2_with (first
        | (with_reducible refine wpList_load_at rfl 31 (.tmp 3) rfl Try.underlying31 rfl (vs := dL q2 n c2 ops armed failing dead) (size31b _ _ _ _ _) rfl (d3.out.part (o := 0) (pre := []) (rest := []) (part31 _) rfl) ?_)
        | ((with_reducible refine wpList_store_at rfl 31 (.tmp 6) (.tmp 55) rfl (o := 0) rfl rfl z3.out (size31b _ _ _ _ _) (fit31 _ _ _ _ _ _ _ _ _ _) (one31 q2 n c2 ops armed failing dead) ?_)
           intro w5 hrow5 hg5
           rw [d5_splice] at hrow5)
        | (refine bodyPost_ret (results_cell_row (P := Try.prog) Try.results44 _ _ (w.heap.size + 1) 31 #[.slice q2 n c2, .int .i64 ops, .int .i64 armed, .int .i64 failing, .bool dead] (0, 0) _ rfl hrow5 Try.underlying31 rfl size31) rfl ?_))
      refine ⟨q2, c2, rfl, (o3.out.kept fun a ha => hg5.block _ (o3.out.holds.2.2 a ha).2 (fun e => by
        have := Option.some.inj e
        have := (o3.out.holds.2.2 a ha).1
        omega)).lower (by omega), b3.out.grown hg5 b3.out.size (fun j e => by have := Option.some.inj e; omega)⟩

end Go.Proofs.Ytnjandmlhncapaa
