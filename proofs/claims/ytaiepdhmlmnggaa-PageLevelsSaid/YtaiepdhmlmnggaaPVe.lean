/- The laws on pages: the pages of kids of several contents; slices.Equal of two equal lists of them. -/
import Derived.Test.YtaiepdhmlmnggaaPVa
import Derived.Test.YtaiepdhmlmnggaaOwnV
namespace Go.Proofs.Ytaiepdhmlmnggaa
open Go.RowKit

def pgV (c : ContD) : List Value := c.kids.map fun k => .int .i64 k.page
def pgL (C : Nat → ContD) : Nat → List Value
  | 0 => []
  | k + 1 => pgL C k ++ pgV (C k)
theorem infoInt : (Try.prog.info? 3).map (fun i => (i.zero, i.size, i.bytes)) = some (some (.int .i64 0), 1, 8) := by kernel_rfl
def PgPost (xs : List Value) (w : World) (e : Ending) (w' : World) : Prop := ∃ q n c, e = .returned (.slice q n c) ∧ n = xs.length ∧ OwnV 3 w' w.heap.size (.slice q n c) xs ∧ Below w.heap.size w w'
set_option maxRecDepth 100000 in
set_option maxHeartbeats 8000000 in
theorem pages_any (C : Nat → ContD) (V : Nat → CV) (b : Nat) (w : World) (hon : ∀ k, k < 2 → (V k).On w (C k)) (h4 : ∀ k, k < 2 → (C k).kids.length ≤ 4)
    (hc : ∀ k, k < 2 → ∀ j x, ([.int .i64 (V k).k, .slice (V k).rq (V k).rn (V k).rc, .slice (V k).kq (V k).kn (V k).kc] : List Value)[j]? = some x → w.cell? ((⟨b, k * 3, none⟩ : Addr).add j) = some x) :
    Calls Try.prog 36 #[.slice (some ⟨b, 0, none⟩) 2 2] w (PgPost (pgL C 2) w) := by
  have hcc := Lib.hid hc
  have hoo := Lib.hid hon
  have h44 := Lib.hid h4
  have hlen : Hid (∀ k, k ≤ 2 → (pgL C k).length ≤ 4 * k) := fun k => by
    induction k with
    | zero => intro _; exact Nat.le_refl _
    | succ k ih =>
      intro hk
      have h1 := ih (by omega)
      have h2 := h4 k (by omega)
      show (pgL C k ++ pgV (C k)).length ≤ _
      rw [List.length_append]
      unfold pgV
      rw [List.length_map]
      omega
  clear hc hon h4
  go_enter Try.func36, Try.ntmps36
  go_wp2
  go_loopw [3, 10] (fun v3 v10 wr => ∃ (k : Nat) (q : Option Addr) (n c : Nat), k ≤ 2 ∧ v10 = .int .i64 k ∧ v3 = .slice q n c ∧ Hid (Below w.heap.size w wr ∧ n = (pgL C k).length ∧ OwnV 3 wr w.heap.size (.slice q n c) (pgL C k))) (fun _ v10 _ => 2 - (RowKit.intOf v10).toNat)
  case atStart => exact ⟨0, none, 0, 0, Nat.zero_le _, rfl, rfl, Below.refl _ _, rfl, OwnV.nil _ _ _⟩
  case round =>
    obtain ⟨k, q, n, c, hk, rfl, rfl, hr⟩ := hrel
    by_cases hlt : k < 2
    · have hck := hcc.out k hlt
      have hok := hoo.out k hlt
      have h4k := Lib.hid (h44.out k hlt)
      have hlk := Lib.hid (hlen.out k hk)
      have hC : Hid (pgL C (k + 1) = pgL C k ++ pgV (C k)) := rfl
      generalize C k = ck at hok h4k hC
      generalize V k = vk at hck hok
      obtain ⟨kk, rq, rn, rc, kq, kn, kc⟩ := vk
      have hcl : Hid (∀ j x, ([.int .i64 kk, .slice rq rn rc, .slice kq kn kc] : List Value)[j]? = some x → wr.cell? ((⟨b, k * 3, none⟩ : Addr).add j) = some x) := fun j x hj => cell_keeps hr.out.1 (Nat.le_refl _) (hck j x hj)
      have hs := sizeCont (.int .i64 kk) (.slice rq rn rc) (.slice kq kn kc)
      have hkids : Hid (KidsOn w kq kn kc ck.kids) := hok.kids
      have hkl : Hid (ck.kids.length = kn) := hok.kl
      have hk4 : kn ≤ 4 := by have := hkl.out; have := h4k.out; omega
      have i0 : (0 : Int) ≤ k := by omega
      have i1 : (k : Int) < 2 := by omega
      obtain ⟨W, hW⟩ : ∃ W, wr.alloc (.cells #[.int .i64 kk, .slice rq rn rc, .slice kq kn kc] 25) = W := ⟨_, rfl⟩
      have hbx := Lib.hid (one_box (xs := [.int .i64 kk, .slice rq rn rc, .slice kq kn kc]) hW)
      have hd := Lib.hid (below_step hbx.out.1 hr.out.1)
      have ho := Lib.hid (hr.out.2.2.below hbx.out.1)
      have hn := Lib.hid hr.out.2.1
      have c2 := hbx.out.2.1.cell 2 rfl
      clear hck hok
      go_wp2_with (first
        | (with_reducible refine wpList_load_at rfl 25 (.tmp 12) rfl Try.underlying25 rfl hs rfl hcl.out ?_))
      clear hW c2
      go_loopw [3, 17] (fun v3 v17 wr => ∃ (j : Nat) (q : Option Addr) (m c : Nat), j ≤ kn ∧ v17 = .int .i64 j ∧ v3 = .slice q m c ∧ Hid (Below w.heap.size w wr ∧ m = n + j ∧ OwnV 3 wr w.heap.size (.slice q m c) (pgL C k ++ (pgV ck).take j))) (fun _ v17 _ => kn - (RowKit.intOf v17).toNat)
      case atStart => exact ⟨0, q, n, c, Nat.zero_le _, rfl, rfl, hd.out, rfl, by rw [List.take_zero, List.append_nil]; exact ho.out⟩
      case round =>
        obtain ⟨j, q2, m, c2, hj, rfl, rfl, hr2⟩ := hrel
        by_cases hlt2 : j < kn
        · obtain ⟨A, ⟨⟨t, id⟩, p⟩, hqA, hx, hok, hcA⟩ := (hkids.out.below hr2.out.1 (Nat.le_refl _)).at hlt2
          subst hqA
          have hcA : Hid (∀ j' x, ([.int .i64 t, .int .u16 id, .int .i64 p] : List Value)[j']? = some x → wr.cell? ((A.add (j * 3)).add j') = some x) := hcA
          have hs1 := sizeKid t id p
          have hx' := Lib.hid hx
          have j0 : (0 : Int) ≤ j := by omega
          have j1 : (j : Int) < kn := by omega
          obtain ⟨w3, hw3⟩ : ∃ w3, (wr.alloc (.cells #[.int .i64 t, .int .u16 id, .int .i64 p] 64)).alloc (.cells #[.int .i64 p] 3) = w3 := ⟨_, rfl⟩
          have hb3 := Lib.hid (two_boxes (xs := [.int .i64 t, .int .u16 id, .int .i64 p]) (ys := [.int .i64 p]) hw3)
          have hd3 := Lib.hid (below_step hb3.out.1 hr2.out.1)
          have ho3 := Lib.hid (hr2.out.2.2.below hb3.out.1)
          have hm : m ≤ 12 := by have := hr2.out.2.1; have := hn.out; have := hlk.out; omega
          have hlz : Hid (w.heap.size ≤ w3.heap.size) := hd3.out.size
          have hel : Hid (∀ j' u, ([.int .i64 p] : List Value)[j']? = some u → w3.cell? ((⟨wr.heap.size + 1, 0, none⟩ : Addr).add j') = some u) := hb3.out.2.2.1
          have hone : Hid (∀ u ∈ ([.int .i64 p] : List Value), u.oneCell' = true) := fun u hu => by rw [List.mem_singleton.1 hu]; rfl
          clear hx hok
          go_wp2_with (first
            | (with_reducible refine wpList_load_at rfl 64 (.tmp 19) rfl Try.underlying64 rfl hs1 rfl hcA.out ?_)
            | (at_builtin
               refine wpList_append_own1 Try.underlying62 infoInt rfl rfl (.tmp 21) (.tmp 24) rfl rfl rfl ho3.out hel.out rfl hone.out (by omega) (by omega) hlz.out ?_
               intro q' c' w4 g1 g2
               have hfar : ∀ j, q2.map (·.block) = some j → w.heap.size ≤ j := fun j hj => by
                 cases q2 with
                 | none => simp at hj
                 | some a => simp at hj; rw [← hj]; exact (ho3.out.far a rfl).1
               have ho4 := Lib.hid g1
               have hd4 := Lib.hid (hd3.out.trans (grown_belowN g2 hd3.out.size (fun j hj => hfar j hj)))
               clear g1 g2 hfar hw3))
          go_roundw
          case rel =>
            refine ⟨j + 1, q', m + 1, c', by omega, by go_num, by go_num, hd4.out, by have := hr2.out.2.1; omega, ?_⟩
            have h6 := ho4.out
            have e : (pgV ck).take (j + 1) = (pgV ck).take j ++ [.int .i64 p] := by
              rw [List.take_add_one]
              unfold pgV
              rw [List.getElem?_map, hx'.out]
              rfl
            rw [e, ← List.append_assoc]
            exact h6
          case measure => simp [RowKit.intOf]; omega
        · obtain rfl : kn = j := by omega
          go_wp2
          go_roundw
          case rel =>
            refine ⟨k + 1, q2, m, c2, by omega, by go_num, rfl, hr2.out.1, ?_, ?_⟩
            · rw [hC.out, List.length_append, ← hn.out, hr2.out.2.1]
              unfold pgV
              rw [List.length_map, hkl.out]
            · have h6 := hr2.out.2.2
              rw [List.take_of_length_le (by unfold pgV; rw [List.length_map, hkl.out]; exact Nat.le_refl _)] at h6
              rw [hC.out]
              exact h6
          case measure => simp [RowKit.intOf]; omega
    · obtain rfl : k = 2 := by omega
      go_wp2
      go_ret
      exact ⟨q, n, c, rfl, hr.out.2.1, hr.out.2.2, hr.out.1⟩

set_option maxRecDepth 100000 in
set_option maxHeartbeats 4000000 in
theorem eqPg_any (q1 q2 : Option Addr) (n c1 c2 B1 B2 : Nat) (xs : List Value) (hx : ∀ x ∈ xs, ∃ i, x = .int .i64 i) (hn : n ≤ 1000) (w : World) (h1 : OwnV 3 w B1 (.slice q1 n c1) xs) (h2 : OwnV 3 w B2 (.slice q2 n c2) xs) :
    Calls Try.prog 37 #[.slice q1 n c1, .slice q2 n c2] w (fun e w' => e = .returned (.bool true) ∧ Below w.heap.size w w') := by
  have g1 := Lib.hid h1
  have g2 := Lib.hid h2
  have hx' := Lib.hid hx
  clear h1 h2 hx
  go_enter Try.func37, Try.ntmps37
  go_wp2
  go_loopw [13] (fun v13 wr => ∃ k : Nat, k ≤ n ∧ v13 = .int .i64 k ∧ Hid (Below w.heap.size w wr)) (fun v13 _ => n - (RowKit.intOf v13).toNat)
  case atStart => exact ⟨0, Nat.zero_le _, rfl, (show Below _ _ _ from Below.refl _ _)⟩
  case round =>
    obtain ⟨k, hk, rfl, hd⟩ := hrel
    by_cases hlt : k < n
    · obtain ⟨a, rfl, _, _, hle1, hc1, _⟩ := (g1.out.below hd.out).at (by omega)
      obtain ⟨b, rfl, _, _, hle2, hc2, _⟩ := (g2.out.below hd.out).at (by omega)
      have hl := g1.out.len
      obtain ⟨x, hxk⟩ : ∃ x, xs[k]? = some x := ⟨_, List.getElem?_eq_getElem (by omega)⟩
      obtain ⟨i, rfl⟩ := hx'.out x (List.mem_of_getElem? hxk)
      have d1 := Lib.hid (hc1 k _ hxk)
      have d2 := Lib.hid (hc2 k _ hxk)
      have i0 : (0 : Int) ≤ k := by omega
      have i1 : (k : Int) < n := by omega
      clear hc1 hc2 hxk hl
      go_wp2_with fail
      refine wp_region_held (S := fun u => Below wr.heap.size wr u) (by kernel_rfl) ?_
      change wpAnyH _ _ _ _ _ _ _ _ (World.drew wr)
      refine wpF.held _ _ _ ?_ _ (below_drew wr)
      refine fx (i := 0) (dst := some 16) (v := .slice (some ⟨a, 0, none⟩) n c1) rfl rfl (fx_read (fun u hu => by go_simp)) ?_; go_frame
      refine fx (i := 1) (dst := some 17) (v := .int .i64 (k : Int)) rfl rfl (fx_read (fun u hu => by go_simp)) ?_; go_frame
      refine fx (i := 2) (dst := some 18) (v := .pointer (some ⟨a, k, none⟩)) rfl rfl (fx_read (fun u hu => by go_simp)) ?_; go_frame
      refine fx (i := 3) (dst := some 19) (v := .int .i64 i) rfl rfl (fx_read (fun u hu => by have e1 := cell_keeps hu (Nat.le_refl _) d1.out; go_simp)) ?_; go_frame
      refine fx (i := 4) (dst := some 20) (v := .slice (some ⟨b, 0, none⟩) n c2) rfl rfl (fx_read (fun u hu => by go_simp)) ?_; go_frame
      refine fx (i := 5) (dst := some 21) (v := .int .i64 (k : Int)) rfl rfl (fx_read (fun u hu => by go_simp)) ?_; go_frame
      refine fx (i := 6) (dst := some 22) (v := .pointer (some ⟨b, k, none⟩)) rfl rfl (fx_read (fun u hu => by go_simp)) ?_; go_frame
      refine fx (i := 7) (dst := some 23) (v := .int .i64 i) rfl rfl (fx_read (fun u hu => by have e1 := cell_keeps hu (Nat.le_refl _) d2.out; go_simp)) ?_; go_frame
      refine fx (i := 8) (dst := some 24) (v := .bool false) rfl rfl (fx_read (fun u hu => by go_simp)) ?_; go_frame
      refine fx_done (fun w2 hu => ?_) (by kernel_rfl) _
      have hd2 := Lib.hid (below_step hu hd.out)
      clear hu
      go_wp2
      go_roundw
      case rel => exact ⟨k + 1, by omega, by go_num, hd2⟩
      case measure => simp [RowKit.intOf]; omega
    · obtain rfl : n = k := by omega
      go_wp2
      go_ret
      exact ⟨rfl, hd.out⟩
end Go.Proofs.Ytaiepdhmlmnggaa
