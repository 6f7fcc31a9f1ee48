/- Parts of the proof: isSerial and Check of ideal; Step of ideal -/
import Derived.Test.YtkdkncbccofpdaaQ18
namespace Go.Proofs.Ytkdkncbccofpdaa
open Go.RowKit
set_option maxRecDepth 100000
def allL (x : SerD) : List (List RowD) := x.rows :: x.begun :: x.marks
def serB (x : SerD) : Bool := decide (x.marks.length ≤ 8) && (!(x.over && decide (0 < x.marks.length)) && (allL x).all fun l => decide (chkList x.bs l = 0))
/-- the lists that are gone over, as they lie -/
def AllOn (w : World) (vs : List SlV) (L : List (List RowD)) : Prop := vs.length = L.length ∧ ∀ (i : Nat) (v : SlV) (l : List RowD), vs[i]? = some v → L[i]? = some l → RowsOn w v.q v.n v.c l
theorem OwnS.elem {T : TypeId} {w : World} {B n c k : Nat} {q : Option Addr} {vs : List SlV} (h : OwnS T w B (.slice q n c) vs) (hk : k < n) : ∃ (g : Nat) (v : SlV), q = some ⟨g, 0, none⟩ ∧ vs[k]? = some v ∧ w.cell? ⟨g, k, none⟩ = some (.slice v.q v.n v.c) := by
 obtain ⟨a, v, rfl, hv, _⟩ := h.reads.at hk
 obtain ⟨g, cur, rfl, _, hrow, _, _, hcur, ht⟩ := h.opened
 rw [show Cel.sz SlV = 1 from rfl, Nat.mul_one] at ht
 refine ⟨g, v, rfl, hv, ?_⟩
 rw [hrow.cell]
 have e1 : (cellsL vs)[k]? = some (.slice v.q v.n v.c) := by
  have := cellsL_get vs k v hv 0 (.slice v.q v.n v.c) rfl
  rwa [show Cel.sz SlV = 1 from rfl, Nat.mul_one, Nat.add_zero] at this
 rw [← ht, List.getElem?_take, if_pos hk] at e1
 exact e1
set_option maxHeartbeats 4000000 in
theorem isSer_any (tq : Option Addr) (tn tc : Nat) (rq : Option Addr) (rn rc : Nat) (bq : Option Addr) (bn bc : Nat) (mq : Option Addr) (mn mc : Nat) (o : Bool) (x : SerD) (w : World) (hx : (⟨tq, tn, tc, rq, rn, rc, bq, bn, bc, mq, mn, mc, o⟩ : SV).On w x) :
 Calls Try.prog 49 #[.agg #[.slice tq tn tc, .slice rq rn rc, .slice bq bn bc, .slice mq mn mc, .bool o]] w (RqPost (serB x) w) := by
 obtain ⟨W, hW⟩ : ∃ W, w.alloc (.cells #[.slice tq tn tc, .slice rq rn rc, .slice bq bn bc, .slice mq mn mc, .bool o] 46) = W := ⟨_, rfl⟩
 have hbx := Lib.hid (one_rowI (xs := [.slice tq tn tc, .slice rq rn rc, .slice bq bn bc, .slice mq mn mc, .bool o]) hW)
 have b0 := Lib.hid hbx.out.1
 have y0 : W.cell? ⟨w.heap.size, 0, none⟩ = some (.slice tq tn tc) := hbx.out.2.1.cell 0
 have y1 : W.cell? ⟨w.heap.size, 1, none⟩ = some (.slice rq rn rc) := hbx.out.2.1.cell 1
 have y2 : W.cell? ⟨w.heap.size, 2, none⟩ = some (.slice bq bn bc) := hbx.out.2.1.cell 2
 have y3 : W.cell? ⟨w.heap.size, 3, none⟩ = some (.slice mq mn mc) := hbx.out.2.1.cell 3
 have y4 : W.cell? ⟨w.heap.size, 4, none⟩ = some (.bool o) := hbx.out.2.1.cell 4
 have hsch := Lib.hid (hx.sch.sch hx.sok)
 obtain ⟨vs, hvs, hvl, hve⟩ := hx.marks
 have hvs' := Lib.hid hvs
 have hml : Hid (x.marks.length = mn) := hx.marks.len
 have hov : Hid (o = x.over) := hx.over
 have hal : Hid (AllOn w (⟨rq, rn, rc⟩ :: ⟨bq, bn, bc⟩ :: vs) (allL x)) := by
  refine ⟨by unfold allL; simp [hvl], fun i v l a b => ?_⟩
  match i with
  | 0 => simp [allL] at a b; subst a b; exact hx.rows
  | 1 => simp [allL] at a b; subst a b; exact hx.begun
  | i + 2 => simp [allL] at a b; exact hve i v l a b
 clear hx hvs hvl hve
 by_cases h8 : 8 < mn
 · have e1 : decide ((8 : Int) < mn) = true := by simp; omega
   have hr : Hid (serB x = false) := by show _ = _; unfold serB; rw [decide_eq_false (by rw [hml.out]; omega)]; rfl
   clear h8
   go_enter Try.func49, Try.ntmps49
   go_wp2
   go_ret
   exact ⟨by rw [hr.out]; rfl, b0.out⟩
 have e1 : decide ((8 : Int) < mn) = false := by simp; omega
 have hm8 : mn ≤ 8 := by omega
 clear h8
 by_cases hom : o = true ∧ 0 < mn
 · obtain ⟨rfl, hm0⟩ := hom
   have e2 : decide ((0 : Int) < mn) = true := by simp; omega
   have e3 : decide (0 < mn) = true := by simp; omega
   have e4 : ((0 : Int) < mn) = True := eq_true (by omega)
   have hr : Hid (serB x = false) := by show _ = _; unfold serB; rw [← hov.out, decide_eq_true (show 0 < x.marks.length by rw [hml.out]; exact hm0)]; simp
   clear hm0
   go_enter Try.func49, Try.ntmps49
   go_wp2
   go_ret
   exact ⟨by rw [hr.out]; rfl, b0.out⟩
 have hr0 : Hid (serB x = (allL x).all fun l => decide (chkList x.bs l = 0)) := by
  show _ = _
  unfold serB
  rw [← hov.out, hml.out, decide_eq_true (show mn ≤ 8 from hm8)]
  cases o with
  | false => simp
  | true => rw [decide_eq_false (show ¬ 0 < mn from fun h => hom ⟨rfl, h⟩)]; simp
 have hcond : Hid (o = false ∨ (o = true ∧ mn = 0)) := by
  cases o with
  | false => exact .inl rfl
  | true =>
    refine .inr ⟨rfl, ?_⟩
    rcases Nat.eq_zero_or_pos mn with h | h
    · exact h
    · exact absurd ⟨rfl, h⟩ hom
 obtain ⟨V, hV⟩ : ∃ V, W.alloc (.cells #[.slice rq rn rc, .slice bq bn bc] 25) = V := ⟨_, rfl⟩
 have hbx2 := one_rowI (xs := [.slice rq rn rc, .slice bq bn bc]) hV
 have own2 : Hid (OwnS 25 V w.heap.size (.slice (some ⟨W.heap.size, 0, none⟩) 2 2) ([⟨rq, rn, rc⟩, ⟨bq, bn, bc⟩] : List SlV)) := OwnS.mk b0.out.size hbx2.2.1 (Nat.le_refl _) (by unfold maxLen; omega) rfl rfl rfl
 have b2 := Lib.hid (b0.out.trans (hbx2.1.mono b0.out.size))
 have x2 := Lib.hid (hbx.out.2.1.below hbx2.1)
 have hWw : w.heap.size ≠ W.heap.size := by have h := hbx.out.2.2; omega
 have mk2 := Lib.hid (hvs'.out.below b2.out (Nat.le_refl _))
 have z3 : V.cell? ⟨w.heap.size, 3, none⟩ = some (.slice mq mn mc) := cell_keeps hbx2.1 (Nat.le_refl _) y3
 have hkey : ∀ o', o' = o → Calls Try.prog 49 #[.agg #[.slice tq tn tc, .slice rq rn rc, .slice bq bn bc, .slice mq mn mc, .bool o']] w (RqPost (serB x) w) := by
  intro o' ho'
  have hcond' := hcond.out
  rw [← ho'] at hcond' y4 hW x2
  clear ho' hov hcond hom hbx
  rcases hcond' with rfl | ⟨rfl, rfl⟩
  · go_enter Try.func49, Try.ntmps49
    go_wp2_with (first
     | (at_builtin
        refine wpList_append_l Try.underlying44 infoSl rfl rfl (.tmp 23) (.tmp 25) rfl rfl rfl own2.out mk2.out (by omega) (by omega) b2.out.size ?_
        intro q3 c3 w3 h1 h2 h3
        have own3 := Lib.hid h1
        have b3 := Lib.hid (b2.out.grown h2 b2.out.size (fun k hk => by cases hk; exact b0.out.size))
        have x3 := Lib.hid (x2.out.kept (show V.grownBy w3 (some W.heap.size) from h2) hWw)
        clear h1 h2 h3))
    clear hW hV own2 mk2 z3 y0 y1 y2 y3 y4 hvs' hbx2
    have own4 : Hid (OwnS 25 w3 w.heap.size (.slice q3 (2 + mn) c3) (⟨rq, rn, rc⟩ :: ⟨bq, bn, bc⟩ :: vs : List SlV)) := own3.out
    have hN : Hid ((allL x).length = 2 + mn) := by show _ = _; unfold allL; have := hml.out; simp only [List.length_cons]; omega
    clear own3
    go_loopw [28] (fun v28 wr => ∃ k : Nat, k ≤ 2 + mn ∧ v28 = .int .i64 k ∧ Hid (Below w3.heap.size w3 wr) ∧ Hid (∀ (i : Nat) (l : List RowD), i < k → (allL x)[i]? = some l → chkList x.bs l = 0)) (fun v28 _ => 2 + mn - (Go.RowKit.intOf v28).toNat)
    case atStart => exact ⟨0, by omega, rfl, (show Below _ _ _ from Below.refl _ _), fun i l hi => by omega⟩
    case round =>
     obtain ⟨k, hk, rfl, brr, hp⟩ := hrel
     by_cases hlt : k < 2 + mn
     · obtain ⟨g, ⟨vq, vn, vc⟩, rfl, hv, hcl⟩ := (own4.out.below brr.out).elem hlt
       obtain ⟨l, hl⟩ : ∃ l, (allL x)[k]? = some l := ⟨_, List.getElem?_eq_getElem (by have := hN.out; omega)⟩
       have ron := Lib.hid ((hal.out.2 k _ l hv hl).below (b3.out.trans (brr.out.mono b3.out.size)) (Nat.le_refl _))
       have son := Lib.hid (hsch.out.below (b3.out.trans (brr.out.mono b3.out.size)) (Nat.le_refl _))
       have y0 : wr.cell? ⟨w.heap.size, 0, none⟩ = some (.slice tq tn tc) := (x3.out.below brr.out).cell 0
       have hl' := Lib.hid hl
       obtain ⟨er, her⟩ : ∃ er, chkList x.bs l = er := ⟨_, rfl⟩
       have her' := Lib.hid her
       clear hv hl
       go_wp2_with fail
       clear hcl y0
       refine (checkList_any tq tn tc x.bs vq vn vc l wr son.out ron.out).mono ?_
       rintro e w5 ⟨rfl, hb⟩
       have b5 := Lib.hid (brr.out.trans (hb.mono brr.out.size))
       rw [her]
       clear hb her
       by_cases he : er = 0
       · subst he
         go_wp2
         go_roundw
         case rel => exact ⟨k + 1, by omega, by go_num, b5, fun i m hi hm => by
          by_cases e : i = k
          · subst e
            have hx := hl'.out
            rw [hx] at hm
            obtain rfl : l = m := by simpa using hm
            exact her'.out
          · exact hp.out i m (by omega) hm⟩
         case measure => simp [Go.RowKit.intOf]; omega
       · have he1 : (er != 0) = true := by simpa using he
         have hr : Hid (serB x = false) := by
          show _ = _
          rw [hr0.out, List.all_eq_false]
          exact ⟨l, List.mem_of_getElem? hl'.out, by rw [her'.out]; simpa using he⟩
         clear he
         go_wp2
         go_ret
         exact ⟨by rw [hr.out]; rfl, b3.out.trans (b5.out.mono b3.out.size)⟩
     · obtain rfl : k = 2 + mn := by omega
       have hr : Hid (serB x = true) := by
        show _ = _
        rw [hr0.out, List.all_eq_true]
        intro l hl
        obtain ⟨i, hi⟩ := List.getElem?_of_mem hl
        have h1 := (List.getElem?_eq_some_iff.1 hi).1
        have h2 := hN.out
        rw [decide_eq_true_eq]
        exact hp.out i l (by omega) hi
       go_wp2
       go_ret
       exact ⟨by rw [hr.out]; rfl, b3.out.trans (brr.out.mono b3.out.size)⟩
  · go_enter Try.func49, Try.ntmps49
    go_wp2_with (first
     | (at_builtin
        refine wpList_append_l Try.underlying44 infoSl rfl rfl (.tmp 23) (.tmp 25) rfl rfl rfl own2.out mk2.out (by omega) (by omega) b2.out.size ?_
        intro q3 c3 w3 h1 h2 h3
        have own3 := Lib.hid h1
        have b3 := Lib.hid (b2.out.grown h2 b2.out.size (fun k hk => by cases hk; exact b0.out.size))
        have x3 := Lib.hid (x2.out.kept (show V.grownBy w3 (some W.heap.size) from h2) hWw)
        clear h1 h2 h3))
    clear hW hV own2 mk2 z3 y0 y1 y2 y3 y4 hvs' hbx2
    have own4 : Hid (OwnS 25 w3 w.heap.size (.slice q3 (2 + 0) c3) (⟨rq, rn, rc⟩ :: ⟨bq, bn, bc⟩ :: vs : List SlV)) := own3.out
    have hN : Hid ((allL x).length = 2 + 0) := by show _ = _; unfold allL; have := hml.out; simp only [List.length_cons]; omega
    clear own3
    go_loopw [28] (fun v28 wr => ∃ k : Nat, k ≤ 2 + 0 ∧ v28 = .int .i64 k ∧ Hid (Below w3.heap.size w3 wr) ∧ Hid (∀ (i : Nat) (l : List RowD), i < k → (allL x)[i]? = some l → chkList x.bs l = 0)) (fun v28 _ => 2 + 0 - (Go.RowKit.intOf v28).toNat)
    case atStart => exact ⟨0, by omega, rfl, (show Below _ _ _ from Below.refl _ _), fun i l hi => by omega⟩
    case round =>
     obtain ⟨k, hk, rfl, brr, hp⟩ := hrel
     by_cases hlt : k < 2 + 0
     · obtain ⟨g, ⟨vq, vn, vc⟩, rfl, hv, hcl⟩ := (own4.out.below brr.out).elem hlt
       obtain ⟨l, hl⟩ : ∃ l, (allL x)[k]? = some l := ⟨_, List.getElem?_eq_getElem (by have := hN.out; omega)⟩
       have ron := Lib.hid ((hal.out.2 k _ l hv hl).below (b3.out.trans (brr.out.mono b3.out.size)) (Nat.le_refl _))
       have son := Lib.hid (hsch.out.below (b3.out.trans (brr.out.mono b3.out.size)) (Nat.le_refl _))
       have y0 : wr.cell? ⟨w.heap.size, 0, none⟩ = some (.slice tq tn tc) := (x3.out.below brr.out).cell 0
       have hl' := Lib.hid hl
       obtain ⟨er, her⟩ : ∃ er, chkList x.bs l = er := ⟨_, rfl⟩
       have her' := Lib.hid her
       clear hv hl
       go_wp2_with fail
       clear hcl y0
       refine (checkList_any tq tn tc x.bs vq vn vc l wr son.out ron.out).mono ?_
       rintro e w5 ⟨rfl, hb⟩
       have b5 := Lib.hid (brr.out.trans (hb.mono brr.out.size))
       rw [her]
       clear hb her
       by_cases he : er = 0
       · subst he
         go_wp2
         go_roundw
         case rel => exact ⟨k + 1, by omega, by go_num, b5, fun i m hi hm => by
          by_cases e : i = k
          · subst e
            have hx := hl'.out
            rw [hx] at hm
            obtain rfl : l = m := by simpa using hm
            exact her'.out
          · exact hp.out i m (by omega) hm⟩
         case measure => simp [Go.RowKit.intOf]; omega
       · have he1 : (er != 0) = true := by simpa using he
         have hr : Hid (serB x = false) := by
          show _ = _
          rw [hr0.out, List.all_eq_false]
          exact ⟨l, List.mem_of_getElem? hl'.out, by rw [her'.out]; simpa using he⟩
         clear he
         go_wp2
         go_ret
         exact ⟨by rw [hr.out]; rfl, b3.out.trans (b5.out.mono b3.out.size)⟩
     · obtain rfl : k = 2 + 0 := by omega
       have hr : Hid (serB x = true) := by
        show _ = _
        rw [hr0.out, List.all_eq_true]
        intro l hl
        obtain ⟨i, hi⟩ := List.getElem?_of_mem hl
        have h1 := (List.getElem?_eq_some_iff.1 hi).1
        have h2 := hN.out
        rw [decide_eq_true_eq]
        exact hp.out i l (by omega) hi
       go_wp2
       go_ret
       exact ⟨by rw [hr.out]; rfl, b3.out.trans (brr.out.mono b3.out.size)⟩
 exact hkey o rfl
def CkPost (b : Bool) (w : World) (e : Ending) (w' : World) : Prop := e = .returned (.int .i64 (if b = true then 0 else 251)) ∧ Below w.heap.size w w'
set_option maxHeartbeats 1000000 in
theorem checkI_any (tq : Option Addr) (tn tc : Nat) (rq : Option Addr) (rn rc : Nat) (bq : Option Addr) (bn bc : Nat) (mq : Option Addr) (mn mc : Nat) (o : Bool) (x : SerD) (w : World) (hx : (⟨tq, tn, tc, rq, rn, rc, bq, bn, bc, mq, mn, mc, o⟩ : SV).On w x) :
 Calls Try.prog 21 #[.agg #[.slice tq tn tc, .slice rq rn rc, .slice bq bn bc, .slice mq mn mc, .bool o]] w (CkPost (serB x) w) := by
 obtain ⟨W, hW⟩ : ∃ W, w.alloc (.cells #[.slice tq tn tc, .slice rq rn rc, .slice bq bn bc, .slice mq mn mc, .bool o] 46) = W := ⟨_, rfl⟩
 have hbx := Lib.hid (one_rowI (xs := [.slice tq tn tc, .slice rq rn rc, .slice bq bn bc, .slice mq mn mc, .bool o]) hW)
 have hs := sizeSer (.slice tq tn tc) (.slice rq rn rc) (.slice bq bn bc) (.slice mq mn mc) (.bool o)
 have hc := Lib.hid (isSer_any tq tn tc rq rn rc bq bn bc mq mn mc o x W (hx.below hbx.out.1 (Nat.le_refl _)))
 clear hx
 obtain ⟨B, hB⟩ : ∃ B, serB x = B := ⟨_, rfl⟩
 rw [hB] at hc ⊢
 clear hB
 go_enter Try.func21, Try.ntmps21
 go_wp2_with (first
  | (with_reducible refine wpList_load_at rfl 46 (.tmp 1) rfl Try.underlying46 rfl hs rfl hbx.out.2.1.boxed.all ?_))
 clear hW
 refine hc.out.mono ?_
 rintro e w1 ⟨rfl, hb⟩
 have b1 := Lib.hid (hbx.out.1.trans (hb.mono hbx.out.1.size))
 clear hb hc
 cases B with
 | true =>
   go_wp2
   go_ret
   exact ⟨rfl, b1.out⟩
 | false =>
   go_wp2
   go_ret
   exact ⟨rfl, b1.out⟩
end Go.Proofs.Ytkdkncbccofpdaa
namespace Go.Proofs.Ytkdkncbccofpdaa
open Go.RowKit
set_option maxRecDepth 100000
def stpM (x : SerD) (q : ReqD) : SerD × AnsD :=
 if serB x = false then (x, errA 251) else if x.over = true then (x, errA 252) else if reqB x.bs q = false then (x, errA 250) else stepW x q
theorem reqB_kind {bs : List BdD} {q : ReqD} (h : reqB bs q = true) : 1 ≤ q.k ∧ q.k ≤ 12 := by
 have h := ((Bool.and_eq_true _ _).mp h).2
 unfold cntB at h
 split at h
 · omega
 split at h
 · omega
 split at h
 · omega
 split at h
 · omega
 · simp at h; omega
theorem reqB_move {bs : List BdD} {q : ReqD} (h : reqB bs q = true) (hk : q.k = 8) : 0 ≤ q.val := by
 have h := ((Bool.and_eq_true _ _).mp h).2
 unfold cntB at h
 rw [if_neg (by omega), if_neg (by omega), if_pos hk] at h
 simp only [Bool.and_eq_true, decide_eq_true_eq] at h
 exact h.2.2.2
theorem reqB_back {bs : List BdD} {q : ReqD} (h : reqB bs q = true) (hk : q.k = 10) : 1 ≤ q.n := by
 have h := ((Bool.and_eq_true _ _).mp h).2
 unfold cntB at h
 rw [if_neg (by omega), if_neg (by omega), if_neg (by omega), if_pos hk] at h
 simpa using h
theorem serB_marks {x : SerD} (h : serB x = true) : x.marks.length ≤ 8 := by
 unfold serB at h
 simp only [Bool.and_eq_true, decide_eq_true_eq] at h
 exact h.1
set_option maxHeartbeats 8000000 in
theorem step_any (tq : Option Addr) (tn tc : Nat) (rq : Option Addr) (rn rc : Nat) (bq : Option Addr) (bn bc : Nat) (mq : Option Addr) (mn mc : Nat) (o : Bool) (qk kt ki tt ti qv : Int) (qs : ByteArray) (qn : Int) (x : SerD) (w : World) (hx : (⟨tq, tn, tc, rq, rn, rc, bq, bn, bc, mq, mn, mc, o⟩ : SV).On w x) (hf : Few x) (hq : ReqOk ⟨qk, ⟨kt, ki⟩, ⟨tt, ti⟩, qv, qs, qn⟩) :
 Calls Try.prog 20 #[.agg #[.slice tq tn tc, .slice rq rn rc, .slice bq bn bc, .slice mq mn mc, .bool o], .agg #[.int .i64 qk, .int .i64 kt, .int .u16 ki, .int .i64 tt, .int .u16 ti, .int .i64 qv, .string qs, .int .i64 qn]] w (DonePost (stpM x ⟨qk, ⟨kt, ki⟩, ⟨tt, ti⟩, qv, qs, qn⟩) w) := by
 obtain ⟨W, hW⟩ : ∃ W, (((w.alloc (.cells #[.slice tq tn tc, .slice rq rn rc, .slice bq bn bc, .slice mq mn mc, .bool o] 46)).alloc (.cells #[.int .i64 qk, .int .i64 kt, .int .u16 ki, .int .i64 tt, .int .u16 ti, .int .i64 qv, .string qs, .int .i64 qn] 30)).alloc (.cells #[.slice none 0 0, .slice none 0 0, .slice none 0 0, .slice none 0 0, .bool false] 46)).alloc (.cells #[.int .i64 0, .slice none 0 0, .int .i64 0] 35) = W := ⟨_, rfl⟩
 have hbx := Lib.hid (four_rowsI (xs := [.slice tq tn tc, .slice rq rn rc, .slice bq bn bc, .slice mq mn mc, .bool o]) (ys := [.int .i64 qk, .int .i64 kt, .int .u16 ki, .int .i64 tt, .int .u16 ti, .int .i64 qv, .string qs, .int .i64 qn]) (zs := [.slice none 0 0, .slice none 0 0, .slice none 0 0, .slice none 0 0, .bool false]) (us := [.int .i64 0, .slice none 0 0, .int .i64 0]) hW)
 have b0 := Lib.hid hbx.out.1
 have s0 := Lib.hid hbx.out.2.1
 have q0 := Lib.hid hbx.out.2.2.1
 have z0 : Hid (RowV 46 W (w.heap.size + 1 + 1) [.slice none 0 0, .slice none 0 0, .slice none 0 0, .slice none 0 0, .bool false]) := hbx.out.2.2.2.1
 have a0 : Hid (RowV 35 W (w.heap.size + 1 + 1 + 1) [.int .i64 0, .slice none 0 0, .int .i64 0]) := hbx.out.2.2.2.2.1
 have hx' := Lib.hid hx
 have hf' := Lib.hid hf
 have hq' := Lib.hid hq
 have hov : Hid (o = x.over) := hx.over
 have hs1 := sizeSer (.slice tq tn tc) (.slice rq rn rc) (.slice bq bn bc) (.slice mq mn mc) (.bool o)
 have hs2 := sizeReq (.int .i64 qk) (.int .i64 kt) (.int .u16 ki) (.int .i64 tt) (.int .u16 ti) (.int .i64 qv) (.string qs) (.int .i64 qn)
 clear hx hf hq hbx
 go_enter Try.func20, Try.ntmps20
 go_wp2_with (first | (with_reducible refine wpList_load_at rfl 46 (.tmp 2) rfl Try.underlying46 rfl hs1 rfl s0.out.boxed.all ?_))
 clear hW
 refine (isSer_any tq tn tc rq rn rc bq bn bc mq mn mc o x W (hx'.out.below b0.out (Nat.le_refl _))).mono ?_
 rintro e u1 ⟨rfl, hb⟩
 have s1 := Lib.hid (s0.out.below hb)
 have q1 := Lib.hid (q0.out.below hb)
 have z1 := Lib.hid (z0.out.below hb)
 have a1 := Lib.hid (a0.out.below hb)
 have b1 := Lib.hid (b0.out.trans (hb.mono b0.out.size))
 clear hb s0 q0 z0 a0 b0
 obtain ⟨B, hB⟩ : ∃ B, serB x = B := ⟨_, rfl⟩
 rw [hB]
 have hB' := Lib.hid hB
 clear hB
 cases B with
 | false =>
   have hr : Hid (stpM x ⟨qk, ⟨kt, ki⟩, ⟨tt, ti⟩, qv, qs, qn⟩ = (x, errA 251)) := by show _ = _; unfold stpM; rw [if_pos hB'.out]
   have hcp : Calls Try.prog 50 #[.agg #[.slice tq tn tc, .slice rq rn rc, .slice bq bn bc, .slice mq mn mc, .bool o]] u1 (SerPost u1 x) := copied_any ⟨tq, tn, tc, rq, rn, rc, bq, bn, bc, mq, mn, mc, o⟩ x u1 (hx'.out.below b1.out (Nat.le_refl _)) hf'.out
   go_wp2_with (first | (with_reducible refine wpList_load_at rfl 46 (.tmp 2) rfl Try.underlying46 rfl hs1 rfl s1.out.boxed.all ?_))
   refine hcp.mono ?_
   rintro e u3 ⟨⟨pt, ptn, ptc, pr, prn, prc, pb, pbn, pbc, pm, pmn, pmc, po⟩, he, ho, hb⟩
   have he' : e = .returned (.agg #[.slice pt ptn ptc, .slice pr prn prc, .slice pb pbn pbc, .slice pm pmn pmc, .bool po]) := he
   subst he'
   have s4 := Lib.hid (s1.out.below hb)
   have q4 := Lib.hid (q1.out.below hb)
   have z4 := Lib.hid (z1.out.below hb)
   have a4 := Lib.hid (a1.out.below hb)
   have b4 := Lib.hid (b1.out.trans (hb.mono b1.out.size))
   have o4 := Lib.hid ho
   clear he ho hb hcp
   go_wp2_with fail
   refine (told_any 251 u3).mono ?_
   rintro e u4 ⟨rfl, hb⟩
   have s5 := Lib.hid (s4.out.below hb)
   have q5 := Lib.hid (q4.out.below hb)
   have z5 := Lib.hid (z4.out.below hb)
   have a5 := Lib.hid (a4.out.below hb)
   have b5 := Lib.hid (b4.out.trans (hb.mono b4.out.size))
   have o5 := Lib.hid (o4.out.below hb)
   have n5 := Lib.hid (AV.Own.err 251 u4)
   clear hb
   go_wp2_with (first
    | ((with_reducible refine wpList_store_at rfl 46 (.tmp 4) (.tmp 10) rfl (o := 0) (vs := [.slice pt ptn ptc, .slice pr prn prc, .slice pb pbn pbc, .slice pm pmn pmc, .bool po]) rfl rfl z5.out (sizeSer _ _ _ _ _) (Nat.le_refl _) (ser_one' _ _ _ _ _ _ _ _ _ _ _ _ _) ?_)
       intro u7 h7 hg7
       have z7 : Hid (RowV 46 u7 (w.heap.size + 1 + 1) [.slice pt ptn ptc, .slice pr prn prc, .slice pb pbn pbc, .slice pm pmn pmc, .bool po]) := h7
       have a7 := Lib.hid (a5.out.kept hg7 (by omega))
       have o7 := Lib.hid (o5.out.gs hg7 z5.out)
       have n7 := Lib.hid (n5.out.gs hg7 z5.out)
       have b7 := Lib.hid (b5.out.grown hg7 b5.out.size (fun k hk => by cases hk; omega))
       clear h7 hg7)
    | ((with_reducible refine wpList_store_at rfl 35 (.tmp 5) (.tmp 11) rfl (o := 0) (vs := [.int .i64 251, .slice none 0 0, .int .i64 0]) rfl rfl a7.out (sizeAns _ _ _) (Nat.le_refl _) (ans_one _ _ _ _ _) ?_)
       intro u8 h8 hg8
       have z8 := Lib.hid (z7.out.kept hg8 (by omega))
       have a8 : Hid (RowV 35 u8 (w.heap.size + 1 + 1 + 1) [.int .i64 251, .slice none 0 0, .int .i64 0]) := h8
       have o8 := Lib.hid (o7.out.ga hg8 a7.out)
       have n8 := Lib.hid (n7.out.ga hg8 a7.out)
       have b8 := Lib.hid (b7.out.grown hg8 b7.out.size (fun k hk => by cases hk; omega))
       clear h8 hg8))
   have m0 := z8.out.cell 0
   have m1 := z8.out.cell 1
   have m2 := z8.out.cell 2
   have m3 := z8.out.cell 3
   have m4 := z8.out.cell 4
   have k0 := a8.out.cell 0
   have k1 := a8.out.cell 1
   have k2 := a8.out.cell 2
   simp only [List.getElem?_cons_zero, List.getElem?_cons_succ] at m0 m1 m2 m3 m4 k0 k1 k2
   refine bodyPost_ret (v := .tuple #[.agg #[.slice pt ptn ptc, .slice pr prn prc, .slice pb pbn pbc, .slice pm pmn pmc, .bool po], .agg #[.int .i64 251, .slice none 0 0, .int .i64 0]]) (by simp [results, Try.results20, go_sem, m0, m1, m2, m3, m4, k0, k1, k2]) rfl ?_
   rw [hr.out]
   exact ⟨⟨pt, ptn, ptc, pr, prn, prc, pb, pbn, pbc, pm, pmn, pmc, po⟩, ⟨251, none, 0, 0, 0⟩, rfl, o8.out, n8.out, b8.out⟩
 | true =>
   have y4 : u1.cell? ⟨w.heap.size, 4, none⟩ = some (.bool o) := s1.out.cell 4
   cases o with
   | true =>
     have hr : Hid (stpM x ⟨qk, ⟨kt, ki⟩, ⟨tt, ti⟩, qv, qs, qn⟩ = (x, errA 252)) := by show _ = _; unfold stpM; rw [if_neg (by rw [hB'.out]; simp), if_pos hov.out.symm]
     have hcp : Calls Try.prog 50 #[.agg #[.slice tq tn tc, .slice rq rn rc, .slice bq bn bc, .slice mq mn mc, .bool true]] u1 (SerPost u1 x) := copied_any ⟨tq, tn, tc, rq, rn, rc, bq, bn, bc, mq, mn, mc, true⟩ x u1 (hx'.out.below b1.out (Nat.le_refl _)) hf'.out
     go_wp2_with (first | (with_reducible refine wpList_load_at rfl 46 (.tmp 2) rfl Try.underlying46 rfl hs1 rfl s1.out.boxed.all ?_))
     refine hcp.mono ?_
     rintro e u3 ⟨⟨pt, ptn, ptc, pr, prn, prc, pb, pbn, pbc, pm, pmn, pmc, po⟩, he, ho, hb⟩
     have he' : e = .returned (.agg #[.slice pt ptn ptc, .slice pr prn prc, .slice pb pbn pbc, .slice pm pmn pmc, .bool po]) := he
     subst he'
     have s4 := Lib.hid (s1.out.below hb)
     have q4 := Lib.hid (q1.out.below hb)
     have z4 := Lib.hid (z1.out.below hb)
     have a4 := Lib.hid (a1.out.below hb)
     have b4 := Lib.hid (b1.out.trans (hb.mono b1.out.size))
     have o4 := Lib.hid ho
     clear he ho hb hcp
     go_wp2_with fail
     refine (told_any 252 u3).mono ?_
     rintro e u4 ⟨rfl, hb⟩
     have s5 := Lib.hid (s4.out.below hb)
     have q5 := Lib.hid (q4.out.below hb)
     have z5 := Lib.hid (z4.out.below hb)
     have a5 := Lib.hid (a4.out.below hb)
     have b5 := Lib.hid (b4.out.trans (hb.mono b4.out.size))
     have o5 := Lib.hid (o4.out.below hb)
     have n5 := Lib.hid (AV.Own.err 252 u4)
     clear hb
     go_wp2_with (first
      | ((with_reducible refine wpList_store_at rfl 46 (.tmp 4) (.tmp 15) rfl (o := 0) (vs := [.slice pt ptn ptc, .slice pr prn prc, .slice pb pbn pbc, .slice pm pmn pmc, .bool po]) rfl rfl z5.out (sizeSer _ _ _ _ _) (Nat.le_refl _) (ser_one' _ _ _ _ _ _ _ _ _ _ _ _ _) ?_)
         intro u7 h7 hg7
         have z7 : Hid (RowV 46 u7 (w.heap.size + 1 + 1) [.slice pt ptn ptc, .slice pr prn prc, .slice pb pbn pbc, .slice pm pmn pmc, .bool po]) := h7
         have a7 := Lib.hid (a5.out.kept hg7 (by omega))
         have o7 := Lib.hid (o5.out.gs hg7 z5.out)
         have n7 := Lib.hid (n5.out.gs hg7 z5.out)
         have b7 := Lib.hid (b5.out.grown hg7 b5.out.size (fun k hk => by cases hk; omega))
         clear h7 hg7)
      | ((with_reducible refine wpList_store_at rfl 35 (.tmp 5) (.tmp 16) rfl (o := 0) (vs := [.int .i64 252, .slice none 0 0, .int .i64 0]) rfl rfl a7.out (sizeAns _ _ _) (Nat.le_refl _) (ans_one _ _ _ _ _) ?_)
         intro u8 h8 hg8
         have z8 := Lib.hid (z7.out.kept hg8 (by omega))
         have a8 : Hid (RowV 35 u8 (w.heap.size + 1 + 1 + 1) [.int .i64 252, .slice none 0 0, .int .i64 0]) := h8
         have o8 := Lib.hid (o7.out.ga hg8 a7.out)
         have n8 := Lib.hid (n7.out.ga hg8 a7.out)
         have b8 := Lib.hid (b7.out.grown hg8 b7.out.size (fun k hk => by cases hk; omega))
         clear h8 hg8))
     have m0 := z8.out.cell 0
     have m1 := z8.out.cell 1
     have m2 := z8.out.cell 2
     have m3 := z8.out.cell 3
     have m4 := z8.out.cell 4
     have k0 := a8.out.cell 0
     have k1 := a8.out.cell 1
     have k2 := a8.out.cell 2
     simp only [List.getElem?_cons_zero, List.getElem?_cons_succ] at m0 m1 m2 m3 m4 k0 k1 k2
     refine bodyPost_ret (v := .tuple #[.agg #[.slice pt ptn ptc, .slice pr prn prc, .slice pb pbn pbc, .slice pm pmn pmc, .bool po], .agg #[.int .i64 252, .slice none 0 0, .int .i64 0]]) (by simp [results, Try.results20, go_sem, m0, m1, m2, m3, m4, k0, k1, k2]) rfl ?_
     rw [hr.out]
     exact ⟨⟨pt, ptn, ptc, pr, prn, prc, pb, pbn, pbc, pm, pmn, pmc, po⟩, ⟨252, none, 0, 0, 0⟩, rfl, o8.out, n8.out, b8.out⟩
   | false =>
     have y0 : u1.cell? ⟨w.heap.size, 0, none⟩ = some (.slice tq tn tc) := s1.out.cell 0
     go_wp2_with (first | (with_reducible refine wpList_load_at rfl 30 (.tmp 3) rfl Try.underlying30 rfl hs2 rfl q1.out.boxed.all ?_))
     clear y0 y4
     refine (isReq_any qk kt ki tt ti qv qs qn x.bs u1 tq tn tc ((hx'.out.sch.sch hx'.out.sok).below b1.out (Nat.le_refl _)) hq'.out.note).mono ?_
     rintro e u2 ⟨rfl, hb⟩
     have s2 := Lib.hid (s1.out.below hb)
     have q2 := Lib.hid (q1.out.below hb)
     have z2 := Lib.hid (z1.out.below hb)
     have a2 := Lib.hid (a1.out.below hb)
     have b2 := Lib.hid (b1.out.trans (hb.mono b1.out.size))
     clear hb s1 q1 z1 a1 b1
     obtain ⟨C, hC⟩ : ∃ C, reqB x.bs ⟨qk, ⟨kt, ki⟩, ⟨tt, ti⟩, qv, qs, qn⟩ = C := ⟨_, rfl⟩
     rw [hC]
     have hC' := Lib.hid hC
     clear hC
     cases C with
     | false =>
       have hr : Hid (stpM x ⟨qk, ⟨kt, ki⟩, ⟨tt, ti⟩, qv, qs, qn⟩ = (x, errA 250)) := by show _ = _; unfold stpM; rw [if_neg (by rw [hB'.out]; simp), if_neg (by rw [← hov.out]; simp), if_pos hC'.out]
       have hcp : Calls Try.prog 50 #[.agg #[.slice tq tn tc, .slice rq rn rc, .slice bq bn bc, .slice mq mn mc, .bool false]] u2 (SerPost u2 x) := copied_any ⟨tq, tn, tc, rq, rn, rc, bq, bn, bc, mq, mn, mc, false⟩ x u2 (hx'.out.below b2.out (Nat.le_refl _)) hf'.out
       go_wp2_with (first | (with_reducible refine wpList_load_at rfl 46 (.tmp 2) rfl Try.underlying46 rfl hs1 rfl s2.out.boxed.all ?_))
       refine hcp.mono ?_
       rintro e u3 ⟨⟨pt, ptn, ptc, pr, prn, prc, pb, pbn, pbc, pm, pmn, pmc, po⟩, he, ho, hb⟩
       have he' : e = .returned (.agg #[.slice pt ptn ptc, .slice pr prn prc, .slice pb pbn pbc, .slice pm pmn pmc, .bool po]) := he
       subst he'
       have s4 := Lib.hid (s2.out.below hb)
       have q4 := Lib.hid (q2.out.below hb)
       have z4 := Lib.hid (z2.out.below hb)
       have a4 := Lib.hid (a2.out.below hb)
       have b4 := Lib.hid (b2.out.trans (hb.mono b2.out.size))
       have o4 := Lib.hid ho
       clear he ho hb hcp
       go_wp2_with fail
       refine (told_any 250 u3).mono ?_
       rintro e u4 ⟨rfl, hb⟩
       have s5 := Lib.hid (s4.out.below hb)
       have q5 := Lib.hid (q4.out.below hb)
       have z5 := Lib.hid (z4.out.below hb)
       have a5 := Lib.hid (a4.out.below hb)
       have b5 := Lib.hid (b4.out.trans (hb.mono b4.out.size))
       have o5 := Lib.hid (o4.out.below hb)
       have n5 := Lib.hid (AV.Own.err 250 u4)
       clear hb
       go_wp2_with (first
        | ((with_reducible refine wpList_store_at rfl 46 (.tmp 4) (.tmp 23) rfl (o := 0) (vs := [.slice pt ptn ptc, .slice pr prn prc, .slice pb pbn pbc, .slice pm pmn pmc, .bool po]) rfl rfl z5.out (sizeSer _ _ _ _ _) (Nat.le_refl _) (ser_one' _ _ _ _ _ _ _ _ _ _ _ _ _) ?_)
           intro u7 h7 hg7
           have z7 : Hid (RowV 46 u7 (w.heap.size + 1 + 1) [.slice pt ptn ptc, .slice pr prn prc, .slice pb pbn pbc, .slice pm pmn pmc, .bool po]) := h7
           have a7 := Lib.hid (a5.out.kept hg7 (by omega))
           have o7 := Lib.hid (o5.out.gs hg7 z5.out)
           have n7 := Lib.hid (n5.out.gs hg7 z5.out)
           have b7 := Lib.hid (b5.out.grown hg7 b5.out.size (fun k hk => by cases hk; omega))
           clear h7 hg7)
        | ((with_reducible refine wpList_store_at rfl 35 (.tmp 5) (.tmp 24) rfl (o := 0) (vs := [.int .i64 250, .slice none 0 0, .int .i64 0]) rfl rfl a7.out (sizeAns _ _ _) (Nat.le_refl _) (ans_one _ _ _ _ _) ?_)
           intro u8 h8 hg8
           have z8 := Lib.hid (z7.out.kept hg8 (by omega))
           have a8 : Hid (RowV 35 u8 (w.heap.size + 1 + 1 + 1) [.int .i64 250, .slice none 0 0, .int .i64 0]) := h8
           have o8 := Lib.hid (o7.out.ga hg8 a7.out)
           have n8 := Lib.hid (n7.out.ga hg8 a7.out)
           have b8 := Lib.hid (b7.out.grown hg8 b7.out.size (fun k hk => by cases hk; omega))
           clear h8 hg8))
       have m0 := z8.out.cell 0
       have m1 := z8.out.cell 1
       have m2 := z8.out.cell 2
       have m3 := z8.out.cell 3
       have m4 := z8.out.cell 4
       have k0 := a8.out.cell 0
       have k1 := a8.out.cell 1
       have k2 := a8.out.cell 2
       simp only [List.getElem?_cons_zero, List.getElem?_cons_succ] at m0 m1 m2 m3 m4 k0 k1 k2
       refine bodyPost_ret (v := .tuple #[.agg #[.slice pt ptn ptc, .slice pr prn prc, .slice pb pbn pbc, .slice pm pmn pmc, .bool po], .agg #[.int .i64 250, .slice none 0 0, .int .i64 0]]) (by simp [results, Try.results20, go_sem, m0, m1, m2, m3, m4, k0, k1, k2]) rfl ?_
       rw [hr.out]
       exact ⟨⟨pt, ptn, ptc, pr, prn, prc, pb, pbn, pbc, pm, pmn, pmc, po⟩, ⟨250, none, 0, 0, 0⟩, rfl, o8.out, n8.out, b8.out⟩
     | true =>
       have hr : Hid (stpM x ⟨qk, ⟨kt, ki⟩, ⟨tt, ti⟩, qv, qs, qn⟩ = stepW x ⟨qk, ⟨kt, ki⟩, ⟨tt, ti⟩, qv, qs, qn⟩) := by show _ = _; unfold stpM; rw [if_neg (by rw [hB'.out]; simp), if_neg (by rw [← hov.out]; simp), if_neg (by rw [hC'.out]; simp)]
       have hdn := Lib.hid (done_any tq tn tc rq rn rc bq bn bc mq mn mc false qk kt ki tt ti qv qs qn x u2 (hx'.out.below b2.out (Nat.le_refl _)) ⟨hf'.out, hq'.out, reqB_kind hC'.out, serB_marks hB'.out, fun h => reqB_move hC'.out h, fun h => reqB_back hC'.out h⟩)
       go_wp2_with (first | (with_reducible refine wpList_load_at rfl 46 (.tmp 2) rfl Try.underlying46 rfl hs1 rfl s2.out.boxed.all ?_) | (with_reducible refine wpList_load_at rfl 30 (.tmp 3) rfl Try.underlying30 rfl hs2 rfl q2.out.boxed.all ?_))
       refine hdn.out.mono ?_
       rintro e u3 ⟨⟨pt, ptn, ptc, pr, prn, prc, pb, pbn, pbc, pm, pmn, pmc, po⟩, ⟨ae, aq, an, ac, ak⟩, he, ho, hn, hb⟩
       have he' : e = .returned (.tuple #[.agg #[.slice pt ptn ptc, .slice pr prn prc, .slice pb pbn pbc, .slice pm pmn pmc, .bool po], .agg #[.int .i64 ae, .slice aq an ac, .int .i64 ak]]) := he
       subst he'
       have s5 := Lib.hid (s2.out.below hb)
       have q5 := Lib.hid (q2.out.below hb)
       have z5 := Lib.hid (z2.out.below hb)
       have a5 := Lib.hid (a2.out.below hb)
       have b5 := Lib.hid (b2.out.trans (hb.mono b2.out.size))
       have o5 := Lib.hid ho
       have n5 := Lib.hid hn
       clear he ho hn hb hdn
       go_wp2_with (first
        | ((with_reducible refine wpList_store_at rfl 46 (.tmp 4) (.tmp 28) rfl (o := 0) (vs := [.slice pt ptn ptc, .slice pr prn prc, .slice pb pbn pbc, .slice pm pmn pmc, .bool po]) rfl rfl z5.out (sizeSer _ _ _ _ _) (Nat.le_refl _) (ser_one' _ _ _ _ _ _ _ _ _ _ _ _ _) ?_)
           intro u7 h7 hg7
           have z7 : Hid (RowV 46 u7 (w.heap.size + 1 + 1) [.slice pt ptn ptc, .slice pr prn prc, .slice pb pbn pbc, .slice pm pmn pmc, .bool po]) := h7
           have a7 := Lib.hid (a5.out.kept hg7 (by omega))
           have o7 := Lib.hid (o5.out.gs hg7 z5.out)
           have n7 := Lib.hid (n5.out.gs hg7 z5.out)
           have b7 := Lib.hid (b5.out.grown hg7 b5.out.size (fun k hk => by cases hk; omega))
           clear h7 hg7)
        | ((with_reducible refine wpList_store_at rfl 35 (.tmp 5) (.tmp 29) rfl (o := 0) (vs := [.int .i64 ae, .slice aq an ac, .int .i64 ak]) rfl rfl a7.out (sizeAns _ _ _) (Nat.le_refl _) (ans_one _ _ _ _ _) ?_)
           intro u8 h8 hg8
           have z8 := Lib.hid (z7.out.kept hg8 (by omega))
           have a8 : Hid (RowV 35 u8 (w.heap.size + 1 + 1 + 1) [.int .i64 ae, .slice aq an ac, .int .i64 ak]) := h8
           have o8 := Lib.hid (o7.out.ga hg8 a7.out)
           have n8 := Lib.hid (n7.out.ga hg8 a7.out)
           have b8 := Lib.hid (b7.out.grown hg8 b7.out.size (fun k hk => by cases hk; omega))
           clear h8 hg8))
       have m0 := z8.out.cell 0
       have m1 := z8.out.cell 1
       have m2 := z8.out.cell 2
       have m3 := z8.out.cell 3
       have m4 := z8.out.cell 4
       have k0 := a8.out.cell 0
       have k1 := a8.out.cell 1
       have k2 := a8.out.cell 2
       simp only [List.getElem?_cons_zero, List.getElem?_cons_succ] at m0 m1 m2 m3 m4 k0 k1 k2
       refine bodyPost_ret (v := .tuple #[.agg #[.slice pt ptn ptc, .slice pr prn prc, .slice pb pbn pbc, .slice pm pmn pmc, .bool po], .agg #[.int .i64 ae, .slice aq an ac, .int .i64 ak]]) (by simp [results, Try.results20, go_sem, m0, m1, m2, m3, m4, k0, k1, k2]) rfl ?_
       rw [hr.out]
       exact ⟨⟨pt, ptn, ptc, pr, prn, prc, pb, pbn, pbc, pm, pmn, pmc, po⟩, ⟨ae, aq, an, ac, ak⟩, rfl, o8.out, n8.out, b8.out⟩
end Go.Proofs.Ytkdkncbccofpdaa
