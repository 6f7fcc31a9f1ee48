/- isSerial and Check of ideal. -/
import Derived.Test.YtkdkncbccofpdaaIRq
namespace Go.Proofs.Ytkdkncbccofpdaa
open Go.RowKit
set_option maxRecDepth 100000

def allL (x : SerD) : List (List RowD) := x.rows :: x.begun :: x.marks
def serB (x : SerD) : Bool := decide (x.marks.length ≤ 8) && (!(x.over && decide (0 < x.marks.length)) && (allL x).all fun l => decide (chkList x.bs l = 0))
/-- the lists that are gone over, as they lie -/
def AllOn (w : World) (vs : List SlV) (L : List (List RowD)) : Prop := vs.length = L.length ∧ ∀ (i : Nat) (v : SlV) (l : List RowD), vs[i]? = some v → L[i]? = some l → RowsOn w v.q v.n v.c l

theorem OwnS.elem {T : TypeId} {w : World} {B n c k : Nat} {q : Option Addr} {vs : List SlV} (h : OwnS T w B (.slice q n c) vs) (hk : k < n) : ∃ (g : Nat) (v : SlV), q = some ⟨g, 0, none⟩ ∧ vs[k]? = some v ∧ w.cell? ⟨g, k, none⟩ = some (.slice v.q v.n v.c) := by
  obtain ⟨a, v, rfl, hv, _⟩ := h.reads.at hk
  obtain ⟨g, cur, rfl, _, hrow, _, _, hcur, ht⟩ := h.opened
  rw [show Cel.sz SlV = 1 from rfl, Nat.mul_one] at ht
  refine ⟨g, v, rfl, hv, ?_⟩
  rw [hrow.cell]
  have e1 : (cellsL vs)[k]? = some (.slice v.q v.n v.c) := by
    have := cellsL_get vs k v hv 0 (.slice v.q v.n v.c) rfl
    rwa [show Cel.sz SlV = 1 from rfl, Nat.mul_one, Nat.add_zero] at this
  rw [← ht, List.getElem?_take, if_pos hk] at e1
  exact e1

set_option maxHeartbeats 4000000 in
theorem isSer_any (tq : Option Addr) (tn tc : Nat) (rq : Option Addr) (rn rc : Nat) (bq : Option Addr) (bn bc : Nat) (mq : Option Addr) (mn mc : Nat) (o : Bool) (x : SerD) (w : World) (hx : (⟨tq, tn, tc, rq, rn, rc, bq, bn, bc, mq, mn, mc, o⟩ : SV).On w x) :
    Calls Try.prog 49 #[.agg #[.slice tq tn tc, .slice rq rn rc, .slice bq bn bc, .slice mq mn mc, .bool o]] w (RqPost (serB x) w) := by
  obtain ⟨W, hW⟩ : ∃ W, w.alloc (.cells #[.slice tq tn tc, .slice rq rn rc, .slice bq bn bc, .slice mq mn mc, .bool o] 46) = W := ⟨_, rfl⟩
  have hbx := Lib.hid (one_rowI (xs := [.slice tq tn tc, .slice rq rn rc, .slice bq bn bc, .slice mq mn mc, .bool o]) hW)
  have b0 := Lib.hid hbx.out.1
  have y0 : W.cell? ⟨w.heap.size, 0, none⟩ = some (.slice tq tn tc) := hbx.out.2.1.cell 0
  have y1 : W.cell? ⟨w.heap.size, 1, none⟩ = some (.slice rq rn rc) := hbx.out.2.1.cell 1
  have y2 : W.cell? ⟨w.heap.size, 2, none⟩ = some (.slice bq bn bc) := hbx.out.2.1.cell 2
  have y3 : W.cell? ⟨w.heap.size, 3, none⟩ = some (.slice mq mn mc) := hbx.out.2.1.cell 3
  have y4 : W.cell? ⟨w.heap.size, 4, none⟩ = some (.bool o) := hbx.out.2.1.cell 4
  have hsch := Lib.hid (hx.sch.sch hx.sok)
  obtain ⟨vs, hvs, hvl, hve⟩ := hx.marks
  have hvs' := Lib.hid hvs
  have hml : Hid (x.marks.length = mn) := hx.marks.len
  have hov : Hid (o = x.over) := hx.over
  have hal : Hid (AllOn w (⟨rq, rn, rc⟩ :: ⟨bq, bn, bc⟩ :: vs) (allL x)) := by
    refine ⟨by unfold allL; simp [hvl], fun i v l a b => ?_⟩
    match i with
    | 0 => simp [allL] at a b; subst a b; exact hx.rows
    | 1 => simp [allL] at a b; subst a b; exact hx.begun
    | i + 2 => simp [allL] at a b; exact hve i v l a b
  clear hx hvs hvl hve
  by_cases h8 : 8 < mn
  · have e1 : decide ((8 : Int) < mn) = true := by simp; omega
    have hr : Hid (serB x = false) := by show _ = _; unfold serB; rw [decide_eq_false (by rw [hml.out]; omega)]; rfl
    clear h8
    go_enter Try.func49, Try.ntmps49
    go_wp2
    go_ret
    exact ⟨by rw [hr.out]; rfl, b0.out⟩
  have e1 : decide ((8 : Int) < mn) = false := by simp; omega
  have hm8 : mn ≤ 8 := by omega
  clear h8
  by_cases hom : o = true ∧ 0 < mn
  · obtain ⟨rfl, hm0⟩ := hom
    have e2 : decide ((0 : Int) < mn) = true := by simp; omega
    have e3 : decide (0 < mn) = true := by simp; omega
    have e4 : ((0 : Int) < mn) = True := eq_true (by omega)
    have hr : Hid (serB x = false) := by show _ = _; unfold serB; rw [← hov.out, decide_eq_true (show 0 < x.marks.length by rw [hml.out]; exact hm0)]; simp
    clear hm0
    go_enter Try.func49, Try.ntmps49
    go_wp2
    go_ret
    exact ⟨by rw [hr.out]; rfl, b0.out⟩
  have hr0 : Hid (serB x = (allL x).all fun l => decide (chkList x.bs l = 0)) := by
    show _ = _
    unfold serB
    rw [← hov.out, hml.out, decide_eq_true (show mn ≤ 8 from hm8)]
    cases o with
    | false => simp
    | true => rw [decide_eq_false (show ¬ 0 < mn from fun h => hom ⟨rfl, h⟩)]; simp
  have hcond : Hid (o = false ∨ (o = true ∧ mn = 0)) := by
    cases o with
    | false => exact .inl rfl
    | true =>
      refine .inr ⟨rfl, ?_⟩
      rcases Nat.eq_zero_or_pos mn with h | h
      · exact h
      · exact absurd ⟨rfl, h⟩ hom
  obtain ⟨V, hV⟩ : ∃ V, W.alloc (.cells #[.slice rq rn rc, .slice bq bn bc] 25) = V := ⟨_, rfl⟩
  have hbx2 := one_rowI (xs := [.slice rq rn rc, .slice bq bn bc]) hV
  have own2 : Hid (OwnS 25 V w.heap.size (.slice (some ⟨W.heap.size, 0, none⟩) 2 2) ([⟨rq, rn, rc⟩, ⟨bq, bn, bc⟩] : List SlV)) := OwnS.mk b0.out.size hbx2.2.1 (Nat.le_refl _) (by unfold maxLen; omega) rfl rfl rfl
  have b2 := Lib.hid (b0.out.trans (hbx2.1.mono b0.out.size))
  have x2 := Lib.hid (hbx.out.2.1.below hbx2.1)
  have hWw : w.heap.size ≠ W.heap.size := by have h := hbx.out.2.2; omega
  have mk2 := Lib.hid (hvs'.out.below b2.out (Nat.le_refl _))
  have z3 : V.cell? ⟨w.heap.size, 3, none⟩ = some (.slice mq mn mc) := cell_keeps hbx2.1 (Nat.le_refl _) y3
  have hkey : ∀ o', o' = o → Calls Try.prog 49 #[.agg #[.slice tq tn tc, .slice rq rn rc, .slice bq bn bc, .slice mq mn mc, .bool o']] w (RqPost (serB x) w) := by
    intro o' ho'
    have hcond' := hcond.out
    rw [← ho'] at hcond' y4 hW x2
    clear ho' hov hcond hom hbx
    rcases hcond' with rfl | ⟨rfl, rfl⟩
    · go_enter Try.func49, Try.ntmps49
      go_wp2_with (first
        | (at_builtin
           refine wpList_append_l Try.underlying44 infoSl rfl rfl (.tmp 23) (.tmp 25) rfl rfl rfl own2.out mk2.out (by omega) (by omega) b2.out.size ?_
           intro q3 c3 w3 h1 h2 h3
           have own3 := Lib.hid h1
           have b3 := Lib.hid (b2.out.grown h2 b2.out.size (fun k hk => by cases hk; exact b0.out.size))
           have x3 := Lib.hid (x2.out.kept (show V.grownBy w3 (some W.heap.size) from h2) hWw)
           clear h1 h2 h3))
      clear hW hV own2 mk2 z3 y0 y1 y2 y3 y4 hvs' hbx2
      have own4 : Hid (OwnS 25 w3 w.heap.size (.slice q3 (2 + mn) c3) (⟨rq, rn, rc⟩ :: ⟨bq, bn, bc⟩ :: vs : List SlV)) := own3.out
      have hN : Hid ((allL x).length = 2 + mn) := by show _ = _; unfold allL; have := hml.out; simp only [List.length_cons]; omega
      clear own3
      go_loopw [28] (fun v28 wr => ∃ k : Nat, k ≤ 2 + mn ∧ v28 = .int .i64 k ∧ Hid (Below w3.heap.size w3 wr) ∧ Hid (∀ (i : Nat) (l : List RowD), i < k → (allL x)[i]? = some l → chkList x.bs l = 0)) (fun v28 _ => 2 + mn - (Go.RowKit.intOf v28).toNat)
      case atStart => exact ⟨0, by omega, rfl, (show Below _ _ _ from Below.refl _ _), fun i l hi => by omega⟩
      case round =>
        obtain ⟨k, hk, rfl, brr, hp⟩ := hrel
        by_cases hlt : k < 2 + mn
        · obtain ⟨g, ⟨vq, vn, vc⟩, rfl, hv, hcl⟩ := (own4.out.below brr.out).elem hlt
          obtain ⟨l, hl⟩ : ∃ l, (allL x)[k]? = some l := ⟨_, List.getElem?_eq_getElem (by have := hN.out; omega)⟩
          have ron := Lib.hid ((hal.out.2 k _ l hv hl).below (b3.out.trans (brr.out.mono b3.out.size)) (Nat.le_refl _))
          have son := Lib.hid (hsch.out.below (b3.out.trans (brr.out.mono b3.out.size)) (Nat.le_refl _))
          have y0 : wr.cell? ⟨w.heap.size, 0, none⟩ = some (.slice tq tn tc) := (x3.out.below brr.out).cell 0
          have hl' := Lib.hid hl
          obtain ⟨er, her⟩ : ∃ er, chkList x.bs l = er := ⟨_, rfl⟩
          have her' := Lib.hid her
          clear hv hl
          go_wp2_with fail
          clear hcl y0
          refine (checkList_any tq tn tc x.bs vq vn vc l wr son.out ron.out).mono ?_
          rintro e w5 ⟨rfl, hb⟩
          have b5 := Lib.hid (brr.out.trans (hb.mono brr.out.size))
          rw [her]
          clear hb her
          by_cases he : er = 0
          · subst he
            go_wp2
            go_roundw
            case rel => exact ⟨k + 1, by omega, by go_num, b5, fun i m hi hm => by
              by_cases e : i = k
              · subst e
                have hx := hl'.out
                rw [hx] at hm
                obtain rfl : l = m := by simpa using hm
                exact her'.out
              · exact hp.out i m (by omega) hm⟩
            case measure => simp [Go.RowKit.intOf]; omega
          · have he1 : (er != 0) = true := by simpa using he
            have hr : Hid (serB x = false) := by
              show _ = _
              rw [hr0.out, List.all_eq_false]
              exact ⟨l, List.mem_of_getElem? hl'.out, by rw [her'.out]; simpa using he⟩
            clear he
            go_wp2
            go_ret
            exact ⟨by rw [hr.out]; rfl, b3.out.trans (b5.out.mono b3.out.size)⟩
        · obtain rfl : k = 2 + mn := by omega
          have hr : Hid (serB x = true) := by
            show _ = _
            rw [hr0.out, List.all_eq_true]
            intro l hl
            obtain ⟨i, hi⟩ := List.getElem?_of_mem hl
            have h1 := (List.getElem?_eq_some_iff.1 hi).1
            have h2 := hN.out
            rw [decide_eq_true_eq]
            exact hp.out i l (by omega) hi
          go_wp2
          go_ret
          exact ⟨by rw [hr.out]; rfl, b3.out.trans (brr.out.mono b3.out.size)⟩
    · go_enter Try.func49, Try.ntmps49
      go_wp2_with (first
        | (at_builtin
           refine wpList_append_l Try.underlying44 infoSl rfl rfl (.tmp 23) (.tmp 25) rfl rfl rfl own2.out mk2.out (by omega) (by omega) b2.out.size ?_
           intro q3 c3 w3 h1 h2 h3
           have own3 := Lib.hid h1
           have b3 := Lib.hid (b2.out.grown h2 b2.out.size (fun k hk => by cases hk; exact b0.out.size))
           have x3 := Lib.hid (x2.out.kept (show V.grownBy w3 (some W.heap.size) from h2) hWw)
           clear h1 h2 h3))
      clear hW hV own2 mk2 z3 y0 y1 y2 y3 y4 hvs' hbx2
      have own4 : Hid (OwnS 25 w3 w.heap.size (.slice q3 (2 + 0) c3) (⟨rq, rn, rc⟩ :: ⟨bq, bn, bc⟩ :: vs : List SlV)) := own3.out
      have hN : Hid ((allL x).length = 2 + 0) := by show _ = _; unfold allL; have := hml.out; simp only [List.length_cons]; omega
      clear own3
      go_loopw [28] (fun v28 wr => ∃ k : Nat, k ≤ 2 + 0 ∧ v28 = .int .i64 k ∧ Hid (Below w3.heap.size w3 wr) ∧ Hid (∀ (i : Nat) (l : List RowD), i < k → (allL x)[i]? = some l → chkList x.bs l = 0)) (fun v28 _ => 2 + 0 - (Go.RowKit.intOf v28).toNat)
      case atStart => exact ⟨0, by omega, rfl, (show Below _ _ _ from Below.refl _ _), fun i l hi => by omega⟩
      case round =>
        obtain ⟨k, hk, rfl, brr, hp⟩ := hrel
        by_cases hlt : k < 2 + 0
        · obtain ⟨g, ⟨vq, vn, vc⟩, rfl, hv, hcl⟩ := (own4.out.below brr.out).elem hlt
          obtain ⟨l, hl⟩ : ∃ l, (allL x)[k]? = some l := ⟨_, List.getElem?_eq_getElem (by have := hN.out; omega)⟩
          have ron := Lib.hid ((hal.out.2 k _ l hv hl).below (b3.out.trans (brr.out.mono b3.out.size)) (Nat.le_refl _))
          have son := Lib.hid (hsch.out.below (b3.out.trans (brr.out.mono b3.out.size)) (Nat.le_refl _))
          have y0 : wr.cell? ⟨w.heap.size, 0, none⟩ = some (.slice tq tn tc) := (x3.out.below brr.out).cell 0
          have hl' := Lib.hid hl
          obtain ⟨er, her⟩ : ∃ er, chkList x.bs l = er := ⟨_, rfl⟩
          have her' := Lib.hid her
          clear hv hl
          go_wp2_with fail
          clear hcl y0
          refine (checkList_any tq tn tc x.bs vq vn vc l wr son.out ron.out).mono ?_
          rintro e w5 ⟨rfl, hb⟩
          have b5 := Lib.hid (brr.out.trans (hb.mono brr.out.size))
          rw [her]
          clear hb her
          by_cases he : er = 0
          · subst he
            go_wp2
            go_roundw
            case rel => exact ⟨k + 1, by omega, by go_num, b5, fun i m hi hm => by
              by_cases e : i = k
              · subst e
                have hx := hl'.out
                rw [hx] at hm
                obtain rfl : l = m := by simpa using hm
                exact her'.out
              · exact hp.out i m (by omega) hm⟩
            case measure => simp [Go.RowKit.intOf]; omega
          · have he1 : (er != 0) = true := by simpa using he
            have hr : Hid (serB x = false) := by
              show _ = _
              rw [hr0.out, List.all_eq_false]
              exact ⟨l, List.mem_of_getElem? hl'.out, by rw [her'.out]; simpa using he⟩
            clear he
            go_wp2
            go_ret
            exact ⟨by rw [hr.out]; rfl, b3.out.trans (b5.out.mono b3.out.size)⟩
        · obtain rfl : k = 2 + 0 := by omega
          have hr : Hid (serB x = true) := by
            show _ = _
            rw [hr0.out, List.all_eq_true]
            intro l hl
            obtain ⟨i, hi⟩ := List.getElem?_of_mem hl
            have h1 := (List.getElem?_eq_some_iff.1 hi).1
            have h2 := hN.out
            rw [decide_eq_true_eq]
            exact hp.out i l (by omega) hi
          go_wp2
          go_ret
          exact ⟨by rw [hr.out]; rfl, b3.out.trans (brr.out.mono b3.out.size)⟩
  exact hkey o rfl

def CkPost (b : Bool) (w : World) (e : Ending) (w' : World) : Prop := e = .returned (.int .i64 (if b = true then 0 else 251)) ∧ Below w.heap.size w w'
set_option maxHeartbeats 1000000 in
theorem checkI_any (tq : Option Addr) (tn tc : Nat) (rq : Option Addr) (rn rc : Nat) (bq : Option Addr) (bn bc : Nat) (mq : Option Addr) (mn mc : Nat) (o : Bool) (x : SerD) (w : World) (hx : (⟨tq, tn, tc, rq, rn, rc, bq, bn, bc, mq, mn, mc, o⟩ : SV).On w x) :
    Calls Try.prog 21 #[.agg #[.slice tq tn tc, .slice rq rn rc, .slice bq bn bc, .slice mq mn mc, .bool o]] w (CkPost (serB x) w) := by
  obtain ⟨W, hW⟩ : ∃ W, w.alloc (.cells #[.slice tq tn tc, .slice rq rn rc, .slice bq bn bc, .slice mq mn mc, .bool o] 46) = W := ⟨_, rfl⟩
  have hbx := Lib.hid (one_rowI (xs := [.slice tq tn tc, .slice rq rn rc, .slice bq bn bc, .slice mq mn mc, .bool o]) hW)
  have hs := sizeSer (.slice tq tn tc) (.slice rq rn rc) (.slice bq bn bc) (.slice mq mn mc) (.bool o)
  have hc := Lib.hid (isSer_any tq tn tc rq rn rc bq bn bc mq mn mc o x W (hx.below hbx.out.1 (Nat.le_refl _)))
  clear hx
  obtain ⟨B, hB⟩ : ∃ B, serB x = B := ⟨_, rfl⟩
  rw [hB] at hc ⊢
  clear hB
  go_enter Try.func21, Try.ntmps21
  go_wp2_with (first
    | (with_reducible refine wpList_load_at rfl 46 (.tmp 1) rfl Try.underlying46 rfl hs rfl hbx.out.2.1.boxed.all ?_))
  clear hW
  refine hc.out.mono ?_
  rintro e w1 ⟨rfl, hb⟩
  have b1 := Lib.hid (hbx.out.1.trans (hb.mono hbx.out.1.size))
  clear hb hc
  cases B with
  | true =>
    go_wp2
    go_ret
    exact ⟨rfl, b1.out⟩
  | false =>
    go_wp2
    go_ret
    exact ⟨rfl, b1.out⟩
end Go.Proofs.Ytkdkncbccofpdaa
