/- CodecBack: for every content and every tail the law returns true, and its arguments read as they did. No condition. -/
import Derived.Test.YtekdkeoeijfhdaaKShort
namespace Go.Proofs.Ytekdkeoeijfhdaa
open Go.ChangeShapes Go.WideShapes Go.ChangeAt Go.RowKit

theorem good_row {c : ContD} {i : Nat} {r : RowD} (h : GoodC c) (hi : c.rows[i]? = some r) : chkRowC r = 0 := by
  rcases h with ⟨_, hr, _⟩ | ⟨_, hr, _⟩ | ⟨_, _, hr⟩
  · rw [hr] at hi; simp at hi
  · have hf := hr.fits i r hi
    unfold fitsR at hf
    rw [Bool.and_eq_true, decide_eq_true_eq] at hf
    exact hf.1
  · rw [hr] at hi; simp at hi

set_option maxRecDepth 100000 in
set_option maxHeartbeats 4000000 in
theorem back_law (k : Int) (rq : Option Addr) (rn rc : Nat) (kq : Option Addr) (kn kc : Nat) (c0 : ContD) (p : Option Addr) (n c : Nat) (b0 : List UInt8) (w : World) (hc0 : ContOn w k rq rn rc kq kn kc c0) (hv0 : Lib.HoldsBytes w (.slice p n c) b0) (hnc : n ≤ c) (hcm : c ≤ maxLen) :
    Calls Try.prog 4 #[.agg #[.int .i64 k, .slice rq rn rc, .slice kq kn kc], .slice p n c] w (fun e w' => e = .returned (.bool true) ∧ Below w.heap.size w w') := by
  unfold maxLen at hcm
  obtain ⟨m, hm⟩ : ∃ m : Nat, m = min n 50 := ⟨_, rfl⟩
  have hmn : min (n : Int) 50 = (m : Int) := by omega
  have hml : m ≤ n := by omega
  have hmc : m ≤ c := by omega
  have hm5 : m ≤ 50 := by omega
  have hsl := fun u => slice_bytes p n c m hml hnc u
  have hv := Lib.hid (holds_front hv0 hml)
  obtain ⟨tl, htl⟩ : ∃ b, b0.take m = b := ⟨_, rfl⟩
  rw [htl] at hv
  clear hv0 hm htl
  obtain ⟨W, hW⟩ : ∃ W, w.alloc (.cells #[.int .i64 k, .slice rq rn rc, .slice kq kn kc] 27) = W := ⟨_, rfl⟩
  have hbx := Lib.hid (one_box (xs := [.int .i64 k, .slice rq rn rc, .slice kq kn kc]) hW)
  have hon0 := Lib.hid (hc0.below hbx.out.1 (Nat.le_refl _))
  have hsc := sizeCont (.int .i64 k) (.slice rq rn rc) (.slice kq kn kc)
  clear hc0
  go_enter Try.func4, Try.ntmps4
  go_wp2_with fail
  clear hW
  refine (wakes_any _).mono ?_
  rintro e w1 ⟨rfl, hb1⟩
  have hd1 := Lib.hid (hbx.out.1.trans (hb1.mono hbx.out.1.size))
  have bx1 := Lib.hid (hbx.out.2.1.below hb1 (Nat.le_refl _))
  have hon1 := Lib.hid (hon0.out.below hb1 (Nat.le_refl _))
  clear hb1
  go_wp2_with (first
    | (with_reducible refine wpList_load_at rfl 27 (.tmp 2) rfl Try.underlying27 rfl hsc rfl bx1.out.all ?_))
  refine (few_any k rq rn rc kq kn kc c0 w1 hon1.out).mono ?_
  rintro e w2 ⟨k2, rq2, rn2, rc2, kq2, kn2, kc2, rfl, hon2, hb2⟩
  obtain ⟨cc, hcc⟩ : ∃ x, fewC c0 = x := ⟨_, rfl⟩
  rw [hcc] at hon2
  have hd2 := Lib.hid (hd1.out.trans (hb2.mono hd1.out.size))
  obtain ⟨W3, hW3⟩ : ∃ W3, w2.alloc (.cells #[.int .i64 k2, .slice rq2 rn2 rc2, .slice kq2 kn2 kc2] 27) = W3 := ⟨_, rfl⟩
  have hb3 := Lib.hid (one_box (xs := [.int .i64 k2, .slice rq2 rn2 rc2, .slice kq2 kn2 kc2]) hW3)
  have hd3 := Lib.hid (hd2.out.trans (hb3.out.1.mono hd2.out.size))
  have hon3 := Lib.hid (hon2.below hb3.out.1 (Nat.le_refl _))
  have hsc2 := sizeCont (.int .i64 k2) (.slice rq2 rn2 rc2) (.slice kq2 kn2 kc2)
  clear hon2 hb2 hcc hon1 hon0 bx1 hbx
  go_wp2_with (first
    | (with_reducible refine wpList_load_at rfl 27 (.tmp 5) rfl Try.underlying27 rfl hsc2 rfl hb3.out.2.1.all ?_))
  clear hW3 hsl hmn
  refine (content_any k2 rq2 rn2 rc2 kq2 kn2 kc2 cc W3 hon3.out).mono ?_
  rintro e w4 ⟨q4, n4, cp4, er4, rfl, hr4, hb4⟩
  have hd4 := Lib.hid (hd3.out.trans (hb4.mono hd3.out.size))
  rcases hr4 with ⟨rfl, hg, ho⟩ | ⟨rfl, _, rfl, rfl, rfl⟩
  · have hn4 : n4 = (encC cc).length := holds_len ho.holds.1
    have hlen := encC_len hg
    have h82 : n4 ≤ 82 := by omega
    have hn4' := Lib.hid hn4
    have hg' := Lib.hid hg
    have ho' := Lib.hid ho
    have hok' := Lib.hid hon3.out.ok
    have hcp := ho.holds.2.1
    have hon4 := Lib.hid (hon3.out.below hb4 (Nat.le_refl _))
    have bx4 := Lib.hid (hb3.out.2.1.below hb4 (Nat.le_refl _))
    clear hn4 hg ho hlen hon3 hb3 hb4
    obtain ⟨W5, hW5⟩ : ∃ W5, w4.alloc (.cells #[] 5) = W5 := ⟨_, rfl⟩
    have hb5 : Hid (Below w4.heap.size w4 W5) := by rw [← hW5]; exact (Below.refl _ _).alloc (Nat.le_refl _) _
    have own5 : Hid (Own W5 w4.heap.size (.slice (some ⟨w4.heap.size, 0, none⟩) 0 0) []) := by
      rw [← hW5]
      exact Row.own (l := []) (B := w4.heap.size) (heap_alloc_new _ _) (Nat.le_refl _) (Nat.zero_le _)
    have ho5 := Lib.hid (holds_below ho'.out.holds.1 hb5.out (Nat.le_refl _))
    have hsz5 := Lib.hid hb5.out.size
    go_wp2_with (first
      | (at_builtin
         refine wpList_append_bytes rfl (.tmp 42) (.tmp 43) rfl rfl rfl own5.out ho5.out (by omega) hsz5.out ?_
         intro q6 c6 w6 h6 hg6
         rw [Nat.zero_add, List.nil_append] at h6
         rw [Nat.zero_add]
         have ho6 := Lib.hid h6
         have hd6 := Lib.hid (own5.out.up (w0 := w4) hg6 hb5.out (Nat.le_refl _))
         have ht6 := Lib.hid (holds_below hv.out (hd4.out.trans (hd6.out.mono hd4.out.size)) (Nat.le_refl _))
         have hsz6 := Lib.hid hd6.out.size
         clear h6 hg6)
      | (at_builtin
         refine wpList_append_bytes rfl (.tmp 44) (.tmp 45) rfl rfl rfl ho6.out ht6.out (by omega) hsz6.out ?_
         intro q7 c7 w7 h7 hg7
         have ho7 := Lib.hid h7
         have hd7 := Lib.hid (ho6.out.up (w0 := w4) hg7 hd6.out (Nat.le_refl _))
         clear h7 hg7))
    clear hW5
    refine (takeContent_any q7 (n4 + m) c7 (encC cc ++ tl) w7 ho7.out.holds.1 ho7.out.holds.2.1 (by omega)).mono ?_
    rintro e w8 ⟨c8, n8, er8, k8, rq8, rn8, rc8, kq8, kn8, kc8, ht8, rfl, hon8, _, _, hb8⟩
    obtain ⟨e1, e2, e3⟩ := takeC_back hg'.out hok'.out ht8
    rw [← hn4'.out] at e2
    rw [e1] at hon8
    subst e2 e3
    have hd8 := Lib.hid (hd7.out.trans (hb8.mono hd7.out.size))
    obtain ⟨W9, hW9⟩ : ∃ W9, w8.alloc (.cells #[.int .i64 k8, .slice rq8 rn8 rc8, .slice kq8 kn8 kc8] 27) = W9 := ⟨_, rfl⟩
    have hb9 := Lib.hid (one_box (xs := [.int .i64 k8, .slice rq8 rn8 rc8, .slice kq8 kn8 kc8]) hW9)
    have hd9 := Lib.hid (hd8.out.trans (hb9.out.1.mono hd8.out.size))
    have hon9 := Lib.hid (hon8.below hb9.out.1 (Nat.le_refl _))
    have hom9 := Lib.hid (hon4.out.below hd9.out (Nat.le_refl _))
    have x0 := hb9.out.2.1.cell 0 rfl
    have x1 := hb9.out.2.1.cell 1 rfl
    have x2 := hb9.out.2.1.cell 2 rfl
    have bx9 := Lib.hid (bx4.out.below hd9.out (Nat.le_refl _))
    have y0 := bx9.out.cell 0 rfl
    have y1 := bx9.out.cell 1 rfl
    have y2 := bx9.out.cell 2 rfl
    have hsame := Lib.hid (same_c k2 rq2 rn2 rc2 kq2 kn2 kc2 cc k8 rq8 rn8 rc8 kq8 kn8 kc8 cc W9 hom9.out hon9.out)
    rw [sameC_iff.2 rfl] at hsame
    clear ht8 hon8 hb8 e1
    go_wp2_with fail
    clear hW9 x0 x1 x2 y0 y1 y2
    refine hsame.out.mono ?_
    clear hsame
    rintro e w10 ⟨rfl, hb10⟩
    have hd10 := Lib.hid (hd9.out.trans (hb10.mono hd9.out.size))
    have bx10 := Lib.hid (hb9.out.2.1.below hb10 (Nat.le_refl _))
    have x0 := bx10.out.cell 0 rfl
    have x1 := bx10.out.cell 1 rfl
    have x2 := bx10.out.cell 2 rfl
    have hchk := Lib.hid (check_any k8 rq8 rn8 rc8 kq8 kn8 kc8 cc w10 (hon9.out.below hb10 (Nat.le_refl _)))
    clear hb10 hb9 hon9
    go_wp2_with fail
    clear x0 x1 x2
    refine hchk.out.mono ?_
    clear hchk
    rintro e w11 ⟨x, rfl, hx, hb11⟩
    have hd11 := Lib.hid (hd10.out.trans (hb11.mono hd10.out.size))
    clear hb11
    rcases hx with ⟨rfl, _⟩ | ⟨_, hbad⟩
    · clear hd10 hd9 hd8 hd7 hom9 bx9 bx10 ho7 ho5 own5 hb5 hsz5 ho6 hd6 ht6 hsz6 hd1 hd2 hd3
      go_wp2
      go_loopw [72] (fun v72 wr => ∃ j : Nat, j ≤ n4 ∧ v72 = .int .i64 j ∧ Hid (Below w4.heap.size w4 wr)) (fun v72 _ => n4 - (RowKit.intOf v72).toNat)
      case atStart => exact ⟨0, Nat.zero_le _, rfl, hd11⟩
      case round =>
        obtain ⟨j, hj, rfl, hbr⟩ := hrel
        by_cases hlt : j < n4
        · have hslj := fun u => slice_bytes q4 n4 cp4 j hj hcp u
          have hvj := Lib.hid (holds_front (holds_below ho'.out.holds.1 hbr.out (Nat.le_refl _)) hj)
          have htk := Lib.hid (takeContent_any q4 j cp4 ((encC cc).take j) wr hvj.out (by omega) (by omega))
          go_wp2_with fail
          refine htk.out.mono ?_
          clear htk hslj
          rintro e w12 ⟨c12, n12, er12, k12, rq12, rn12, rc12, kq12, kn12, kc12, ht12, rfl, _, _, _, hb12⟩
          have h7 : er12 = 7 := takeC_short hg'.out hok'.out (List.take_append_drop j _).symm (fun e => by
            have h := congrArg List.length e
            rw [List.length_drop, ← hn4'.out] at h
            simp at h
            omega) ht12
          subst h7
          have hd12 := Lib.hid (hbr.out.trans (hb12.mono hbr.out.size))
          clear ht12 hb12
          obtain ⟨W13, hW13⟩ : ∃ W13, w12.alloc (.cells #[.int .i64 k12, .slice rq12 rn12 rc12, .slice kq12 kn12 kc12] 27) = W13 := ⟨_, rfl⟩
          have hb13 := Lib.hid (one_box (xs := [.int .i64 k12, .slice rq12 rn12 rc12, .slice kq12 kn12 kc12]) hW13)
          have hd13 := Lib.hid (hd12.out.trans (hb13.out.1.mono hd12.out.size))
          go_wp2
          go_roundw
          case rel => exact ⟨j + 1, by omega, by go_num, hd13⟩
          case measure => simp [RowKit.intOf]; omega
        · obtain rfl : n4 = j := by omega
          have bxr := Lib.hid (bx4.out.below hbr.out (Nat.le_refl _))
          have y1 := bxr.out.cell 1 rfl
          go_wp2
          clear y1
          obtain ⟨wo, rfl⟩ : ∃ x, x = wr := ⟨_, rfl⟩
          have hrr := Lib.hid hon4.out.rows
          have hrm := Nat.le_trans hon4.out.rows.le hon4.out.rows.cap
          unfold maxLen at hrm
          clear hon4 bx4 bxr hd11
          go_loopw [89] (fun v89 wr => ∃ i : Nat, i ≤ rn2 ∧ v89 = .int .i64 i ∧ Hid (Below w4.heap.size w4 wr)) (fun v89 _ => rn2 - (RowKit.intOf v89).toNat)
          case atStart => exact ⟨0, Nat.zero_le _, rfl, hbr⟩
          case round =>
            obtain ⟨i, hi, rfl, hbi⟩ := hrel
            by_cases hli : i < rn2
            · obtain ⟨A, ⟨⟨t, id⟩, v, s⟩, hqA, hx, hok, hcA⟩ := (hrr.out.below hbi.out (Nat.le_refl _)).at hli
              subst hqA
              have hcell : Hid (∀ j' x, ([.int .i64 t, .int .u16 id, .int .i64 v, .string s] : List Value)[j']? = some x → wr.cell? ((A.add (i * 4)).add j') = some x) := hcA
              have hs2 := sizeRow t id v s
              have hck := Lib.hid (good_row hg'.out hx)
              have hok2 := Lib.hid hok
              clear hx hok hcA
              obtain ⟨WA, hWA⟩ : ∃ W', wr.alloc (.cells #[.int .i64 t, .int .u16 id, .int .i64 v, .string s] 42) = W' := ⟨_, rfl⟩
              have hbA := Lib.hid (one_box (xs := [.int .i64 t, .int .u16 id, .int .i64 v, .string s]) hWA)
              have hdA := Lib.hid (hbi.out.trans (hbA.out.1.mono hbi.out.size))
              go_wp2_with (first
                | (with_reducible refine wpList_load_at rfl 42 (.tmp 91) rfl Try.underlying42 rfl hs2 rfl hcell.out ?_)
                | (with_reducible refine wpList_load_at rfl 42 (.tmp 16) rfl Try.underlying42 rfl hs2 rfl hbA.out.2.1.all ?_))
              clear hWA
              refine (row_any t id v s WA hok2.out).mono ?_
              rintro e w15 ⟨q15, n15, cp15, er15, rfl, hr15, hb15⟩
              rcases hr15 with ⟨rfl, _, ho15⟩ | ⟨_, h151, _⟩
              · have hn15 : n15 = (encRow ⟨⟨t, id⟩, v, s⟩).length := holds_len ho15.holds.1
                have h20 : n15 ≤ 20 := by
                  have h8 : s.size ≤ 8 := (fitsR_ok (L := []) (r := ⟨⟨t, id⟩, v, s⟩) (by unfold fitsR; rw [hck.out]; rfl)).2.2
                  rw [hn15, encRow_len]
                  show 12 + s.size ≤ 20
                  omega
                have hn15' := Lib.hid hn15
                have ho15' := Lib.hid ho15
                have hd15 := Lib.hid (hdA.out.trans (hb15.mono hdA.out.size))
                have bx15 := Lib.hid (hbA.out.2.1.below hb15 (Nat.le_refl _))
                clear hn15 ho15 hb15
                obtain ⟨W5, hW5⟩ : ∃ W5, w15.alloc (.cells #[] 5) = W5 := ⟨_, rfl⟩
                have hb5 : Hid (Below w15.heap.size w15 W5) := by rw [← hW5]; exact (Below.refl _ _).alloc (Nat.le_refl _) _
                have own5 : Hid (Own W5 w15.heap.size (.slice (some ⟨w15.heap.size, 0, none⟩) 0 0) []) := by
                  rw [← hW5]
                  exact Row.own (l := []) (B := w15.heap.size) (heap_alloc_new _ _) (Nat.le_refl _) (Nat.zero_le _)
                have ho5 := Lib.hid (holds_below ho15'.out.holds.1 hb5.out (Nat.le_refl _))
                have hsz5 := Lib.hid hb5.out.size
                go_wp2_with (first
                  | (at_builtin
                     refine wpList_append_bytes rfl (.tmp 99) (.tmp 100) rfl rfl rfl own5.out ho5.out (by omega) hsz5.out ?_
                     intro q6 c6 w6 h6 hg6
                     rw [Nat.zero_add, List.nil_append] at h6
                     rw [Nat.zero_add]
                     have ho6 := Lib.hid h6
                     have hd6 := Lib.hid (own5.out.up (w0 := w15) hg6 hb5.out (Nat.le_refl _))
                     have ht6 := Lib.hid (holds_below hv.out (hd4.out.trans ((hd15.out.trans (hd6.out.mono hd15.out.size)).mono hd4.out.size)) (Nat.le_refl _))
                     have hsz6 := Lib.hid hd6.out.size
                     clear h6 hg6)
                  | (at_builtin
                     refine wpList_append_bytes rfl (.tmp 101) (.tmp 102) rfl rfl rfl ho6.out ht6.out (by omega) hsz6.out ?_
                     intro q7 c7 w7 h7 hg7
                     have ho7 := Lib.hid h7
                     have hd7 := Lib.hid (ho6.out.up (w0 := w15) hg7 hd6.out (Nat.le_refl _))
                     clear h7 hg7))
                clear hW5
                refine (takeRow_any q7 (n15 + m) c7 (encRow ⟨⟨t, id⟩, v, s⟩ ++ tl) w7 ho7.out.holds.1 ho7.out.holds.2.1 (by omega)).mono ?_
                rintro e w18 ⟨r18, n18, er18, ht18, rfl, hb18⟩
                obtain ⟨e1, e2, e3⟩ := takeR_back hck.out hok2.out ht18
                rw [← hn15'.out] at e2
                subst e1 e2 e3
                simp only [rowV]
                have hd18 := Lib.hid (hd7.out.trans (hb18.mono hd7.out.size))
                clear ht18 hb18
                obtain ⟨W19, hW19⟩ : ∃ W', w18.alloc (.cells #[.int .i64 t, .int .u16 id, .int .i64 v, .string s] 42) = W' := ⟨_, rfl⟩
                have hb19 := Lib.hid (one_box (xs := [.int .i64 t, .int .u16 id, .int .i64 v, .string s]) hW19)
                have hd19 := Lib.hid (hd18.out.trans (hb19.out.1.mono hd18.out.size))
                have x0 := hb19.out.2.1.cell 0 rfl
                have x1 := hb19.out.2.1.cell 1 rfl
                have x2 := hb19.out.2.1.cell 2 rfl
                have x3 := hb19.out.2.1.cell 3 rfl
                have bx19 := Lib.hid (bx15.out.below hd19.out (Nat.le_refl _))
                have y0 := bx19.out.cell 0 rfl
                have y1 := bx19.out.cell 1 rfl
                have y2 := bx19.out.cell 2 rfl
                have y3 := bx19.out.cell 3 rfl
                have hneq := fun u => neq_row u t id v s t id v s
                rw [show eqR ⟨⟨t, id⟩, v, s⟩ ⟨⟨t, id⟩, v, s⟩ = true from eqR_iff.2 rfl] at hneq
                have hnew : Hid (Below w4.heap.size w4 W19) := hd15.out.trans (hd19.out.mono hd15.out.size)
                go_wp2
                go_roundw
                case rel => exact ⟨i + 1, by omega, by go_num, hnew⟩
                case measure => simp [RowKit.intOf]; omega
              · exact absurd (hck.out.symm.trans h151) (by decide)
            · obtain rfl : rn2 = i := by omega
              go_wp2
              go_ret
              exact ⟨rfl, hd4.out.trans (hbi.out.mono hd4.out.size)⟩
    · exact absurd hg'.out hbad
  · go_wp2
    go_ret
    exact ⟨rfl, hd4.out⟩

set_option maxRecDepth 1000000 in
theorem back_lifted (os : Os) (started : os.Started) (H : Type) (enc : TypeId × Value → H) :
    ReturnsInHanded {} Try.checked os 4 .any (Rows.codecBackSpec.pre6 enc Try.prog Try.f4 Rows.codecBackRow.domain false) (Rows.codecBackSpec.post enc Try.prog Try.f4 false true false false) := by
  refine returnsInHanded_of_change (C := Try.checked) own started (by kernel_rfl) Try.func4
    (ChangeSpec.witness6 (enc := enc) (C := Try.checked) false ⟨#[], #[.agg #[.int .i64 0, .slice none 0 0, .slice none 0 0], .slice none 0 0], []⟩ 8 (by kernel_rfl) (by kernel_rfl) (by kernel_rfl) (by kernel_rfl)) ?_
  intro W base args ds gs before hval0 hW _ _
  have hval : ∀ (j : Nat) t v, Try.f4.params[j]? = some t → args[j]? = some v → Value.okWide Try.prog W .any base t v := hval0
  have hW' := hW
  obtain ⟨p, q, hA0, hV, rfl, _, _⟩ := hW
  have hA : DataW.TrodAll enc Try.prog W 0 (fun _ => true) true Try.f4.params.toList args.toList ds p := hA0
  rw [Try.params4] at hA hval
  obtain ⟨v0, v1, d0, d1, p0, p1, rfl, rfl, rfl, h0, h1⟩ := trodAll_two hA
  obtain ⟨rfl, rfl⟩ := trodVars_none hV
  obtain ⟨k0, rq0, rn0, rc0, kq0, kn0, kc0, x0, rfl, hc0⟩ := open_cont (hval 0 27 v0 rfl rfl) h0
  obtain ⟨a1, len1, cap1, rfl⟩ := okWide_slice Try.underlying33 (hval 1 33 v1 rfl rfl)
  obtain ⟨l1, hl1, _, hle1⟩ := open_bytes h1
  have hcap1 := open_cap h1
  refine (back_law k0 rq0 rn0 rc0 kq0 kn0 kc0 x0 a1 len1 cap1 l1 W hc0 hl1 hle1 hcap1).mono fun e W' ⟨he, hb⟩ => ?_
  subst he
  exact ⟨_, rfl, law_post laidOut (of_decide_eq_true (by kernel_rfl)) rfl (by kernel_rfl) Try.underlying4 hW' ⟨rfl, rfl, rfl⟩ hb⟩

set_option maxRecDepth 1000000 in
theorem back_holds : Rows.CodecBackSaid :=
  OpenClaim.holds_of_wide 4 Try.f4 rfl rfl rfl rfl rfl rfl rfl ⟨rfl, rfl, rfl, rfl, rfl⟩ rfl rfl rfl rfl rfl (by kernel_rfl) Try.func4 (by kernel_rfl)
    (of_decide_eq_true (by kernel_rfl)) (by unfold Func.isWrapper; first | (rw [if_pos (by decide +kernel)]; kernel_rfl) | (rw [if_neg (by decide +kernel)]; exact ⟨rfl, rfl⟩))
    (fun os started H enc _ => back_lifted os started H enc)
end Go.Proofs.Ytekdkeoeijfhdaa
