/- Right of the document's ideal. -/
import Derived.Test.YtkdkncbccofpdaaQ26
import Derived.Test.YtkdkncbccofpdaaQ21
namespace Go.Proofs.Ytkdkncbccofpdaa
open Go.ChangeShapes Go.WideShapes Go.ChangeAt Go.RowKit Go.Deep Go.Joins
set_option maxRecDepth 100000

section
variable {x : SerD}
theorem sb_no (h : ¬ (x.marks.length ≤ 8 ∧ (x.over = true → x.marks.length = 0) ∧ chkList x.bs x.rows = 0 ∧ chkList x.bs x.begun = 0 ∧ ∀ l ∈ x.marks, chkList x.bs l = 0)) : serB x = false := by
  cases hs : serB x with
  | false => rfl
  | true => exact absurd (serB_iff.1 hs) h
theorem sb_S (h : okS x.bs = false) : serB x = false := sb_no fun k => by
  have := (chkList_zero k.2.2.1).1
  rw [h] at this; cases this
theorem sb_R (h : okL x.bs x.rows = false) : serB x = false := sb_no fun k => by
  have := (chkList_zero k.2.2.1).2
  rw [h] at this; cases this
theorem sb_B (h : okL x.bs x.begun = false) : serB x = false := sb_no fun k => by
  have := (chkList_zero k.2.2.2.1).2
  rw [h] at this; cases this
theorem sb_M {i : Nat} {l : List RowD} (hi : x.marks[i]? = some l) (h : okL x.bs l = false) : serB x = false := sb_no fun k => by
  have := (chkList_zero (k.2.2.2.2 l (List.mem_of_getElem? hi))).2
  rw [h] at this; cases this
theorem sb_yes (hS : okS x.bs = true) (hR : okL x.bs x.rows = true) (hB : okL x.bs x.begun = true) (hM : ∀ (i : Nat) (l : List RowD), i < x.marks.length → x.marks[i]? = some l → okL x.bs l = true) (h8 : x.marks.length ≤ 8) (ho : x.over = true → x.marks.length = 0) : serB x = true :=
  serB_iff.2 ⟨h8, ho, chk_zero hS hR, chk_zero hS hB, fun l hl => by
    obtain ⟨i, hi⟩ := List.mem_iff_getElem?.1 hl
    exact chk_zero hS (hM i l (List.getElem?_eq_some_iff.1 hi).1 hi)⟩
end

set_option maxHeartbeats 4000000 in
theorem rightS_any (tq : Option Addr) (tn tc : Nat) (rq : Option Addr) (rn rc : Nat) (bq : Option Addr) (bn bc : Nat) (mq : Option Addr) (mn mc : Nat) (o : Bool) (x : SerD) (w : World) (hx : (⟨tq, tn, tc, rq, rn, rc, bq, bn, bc, mq, mn, mc, o⟩ : SV).On w x) :
    Calls Try.prog 24 #[.agg #[.slice tq tn tc, .slice rq rn rc, .slice bq bn bc, .slice mq mn mc, .bool o]] w (RqPost (serB x) w) := by
  obtain ⟨W, hW⟩ : ∃ W, w.alloc (.cells #[.slice tq tn tc, .slice rq rn rc, .slice bq bn bc, .slice mq mn mc, .bool o] 46) = W := ⟨_, rfl⟩
  have hbx := Lib.hid (one_rowI (xs := [.slice tq tn tc, .slice rq rn rc, .slice bq bn bc, .slice mq mn mc, .bool o]) hW)
  have b0 := Lib.hid hbx.out.1
  have s0 := Lib.hid hbx.out.2.1
  have hx' := Lib.hid hx
  have hsch := Lib.hid (hx.sch.sch hx.sok)
  have hmn := Lib.hid (show x.marks.length = mn from hx.marks.len)
  have hov := Lib.hid (show o = x.over from hx.over)
  obtain ⟨vs, hvs, hvl, hve⟩ := hx.marks
  have hvs : SlOn w mq mn mc vs := hvs
  have hmc : mn ≤ mc := hvs.le
  have hcap : mc ≤ maxLen := hvs.cap
  unfold maxLen at hcap
  have hvs' := Lib.hid hvs
  have hve' := Lib.hid hve
  clear hx hbx hvs hvl hve
  have c0 : W.cell? ⟨w.heap.size, 0, none⟩ = some (.slice tq tn tc) := s0.out.cell 0
  go_enter Try.func24, Try.ntmps24
  go_wp2_with fail
  clear hW c0
  refine (right_any tq tn tc x.bs W (hsch.out.below b0.out (Nat.le_refl _))).mono ?_
  rintro e u1 ⟨rfl, hb⟩
  have b1 := Lib.hid (b0.out.trans (hb.mono b0.out.size))
  have s1 := Lib.hid (s0.out.below hb)
  clear hb s0 b0
  obtain ⟨S, hS⟩ : ∃ b, okS x.bs = b := ⟨_, rfl⟩
  rw [hS]
  have hS' := Lib.hid hS
  clear hS
  cases S with
  | false =>
    go_wp2
    go_ret
    exact ⟨by rw [sb_S hS'.out]; rfl, b1.out⟩
  | true =>
    have c0 : u1.cell? ⟨w.heap.size, 0, none⟩ = some (.slice tq tn tc) := s1.out.cell 0
    have c1 : u1.cell? ⟨w.heap.size, 1, none⟩ = some (.slice rq rn rc) := s1.out.cell 1
    go_wp2_with fail
    clear c0 c1
    refine (rightList_any tq tn tc x.bs rq rn rc x.rows u1 (hsch.out.below b1.out (Nat.le_refl _)) (hx'.out.rows.below b1.out (Nat.le_refl _))).mono ?_
    rintro e u2 ⟨rfl, hb⟩
    have b2 := Lib.hid (b1.out.trans (hb.mono b1.out.size))
    have s2 := Lib.hid (s1.out.below hb)
    clear hb s1 b1
    obtain ⟨R2, hR⟩ : ∃ b, okL x.bs x.rows = b := ⟨_, rfl⟩
    rw [hR]
    have hR2 := Lib.hid hR
    clear hR
    cases R2 with
    | false =>
      go_wp2
      go_ret
      exact ⟨by rw [sb_R hR2.out]; rfl, b2.out⟩
    | true =>
      have c0 : u2.cell? ⟨w.heap.size, 0, none⟩ = some (.slice tq tn tc) := s2.out.cell 0
      have c2 : u2.cell? ⟨w.heap.size, 2, none⟩ = some (.slice bq bn bc) := s2.out.cell 2
      go_wp2_with fail
      clear c0 c2
      refine (rightList_any tq tn tc x.bs bq bn bc x.begun u2 (hsch.out.below b2.out (Nat.le_refl _)) (hx'.out.begun.below b2.out (Nat.le_refl _))).mono ?_
      rintro e u3 ⟨rfl, hb⟩
      have b3 := Lib.hid (b2.out.trans (hb.mono b2.out.size))
      have s3 := Lib.hid (s2.out.below hb)
      clear hb s2 b2
      obtain ⟨R3, hR⟩ : ∃ b, okL x.bs x.begun = b := ⟨_, rfl⟩
      rw [hR]
      have hR3 := Lib.hid hR
      clear hR
      cases R3 with
      | false =>
        go_wp2
        go_ret
        exact ⟨by rw [sb_B hR3.out]; rfl, b3.out⟩
      | true =>
        go_wp2
        go_loopw [3] (fun v3 wr => ∃ k : Nat, k ≤ mn ∧ v3 = .int .i64 k ∧ Hid (Below u3.heap.size u3 wr) ∧ Hid (∀ (i : Nat) (l : List RowD), i < k → x.marks[i]? = some l → okL x.bs l = true)) (fun v3 _ => mn - (Go.RowKit.intOf v3).toNat)
        case atStart => exact ⟨0, Nat.zero_le _, rfl, (show Below _ _ _ from Below.refl _ _), fun i a hi => by omega⟩
        case round =>
          obtain ⟨k, hk, rfl, hb, hp⟩ := hrel
          have sr := Lib.hid (s3.out.below hb.out)
          have br := Lib.hid (b3.out.trans (hb.out.mono b3.out.size))
          have c3 : wr.cell? ⟨w.heap.size, 3, none⟩ = some (.slice mq mn mc) := sr.out.cell 3
          by_cases hlt : k < mn
          · obtain ⟨A, ⟨pq, pn, pc⟩, hqA, hx2, hcA⟩ := (hvs'.out.below br.out (Nat.le_refl _)).at hlt
            subst hqA
            obtain ⟨lk, hlk⟩ : ∃ a, x.marks[k]? = some a := ⟨_, List.getElem?_eq_getElem (by have := hmn.out; omega)⟩
            have rk := Lib.hid ((hve'.out k _ lk hx2 hlk).below br.out (Nat.le_refl _))
            have p0 : Hid (∀ u, Below wr.heap.size wr u → u.cell? (A.add k) = some (.slice pq pn pc)) := fun u hu => by
              have h := cell_keeps hu (Nat.le_refl _) (hcA 0 _ rfl)
              rw [add0, show Cel.sz SlV = 1 from rfl, Nat.mul_one] at h
              exact h
            have hlk' := Lib.hid hlk
            have i0 : (0 : Int) ≤ k := by omega
            have i1 : (k : Int) < mn := by omega
            clear hx2 hcA hlk
            obtain ⟨C, hC⟩ : ∃ C, okL x.bs lk = C := ⟨_, rfl⟩
            have hrl : Hid (∀ u, Below wr.heap.size wr u → Calls Try.prog 16 #[.agg #[.slice tq tn tc], .slice pq pn pc] u (fun e w' => e = .returned (.bool C) ∧ Below u.heap.size u w')) := by
              intro u hu
              rw [← hC]
              exact rightList_any tq tn tc x.bs pq pn pc lk u (hsch.out.below (br.out.trans (hu.mono br.out.size)) (Nat.le_refl _)) (rk.out.below hu (Nat.le_refl _))
            have hC' := Lib.hid hC
            clear hC
            go_wp2
            clear c3
            refine wp_region_held (S := fun u => Below wr.heap.size wr u) (by kernel_rfl) ?_
            change wpAnyH _ _ _ _ _ _ _ _ (World.drew wr)
            have hX0 : Hid (Below wr.heap.size wr wr.drew) := below_drew wr
            refine held_tk (i := 0) (dst := some 31) (v := .pointer (some ⟨w.heap.size, 0, none⟩)) rfl rfl (.inl ⟨rfl, fun u _ => by go_simp⟩) hX0.out ?_
            go_frame
            refine held_tk (i := 1) (dst := some 32) (v := .agg #[.slice tq tn tc]) rfl rfl (.inl ⟨rfl, fun u hu => by have y0 : u.cell? ⟨w.heap.size, 0, none⟩ = some (.slice tq tn tc) := (sr.out.below hu).cell 0; go_simp⟩) hX0.out ?_
            go_frame
            refine held_tk (i := 2) (dst := some 33) (v := .pointer (some ⟨w.heap.size, 3, none⟩)) rfl rfl (.inl ⟨rfl, fun u _ => by go_simp⟩) hX0.out ?_
            go_frame
            refine held_tk (i := 3) (dst := some 34) (v := .slice (some A) mn mc) rfl rfl (.inl ⟨rfl, fun u hu => by have y0 : u.cell? ⟨w.heap.size, 3, none⟩ = some (.slice (some A) mn mc) := (sr.out.below hu).cell 3; go_simp⟩) hX0.out ?_
            go_frame
            refine held_tk (i := 4) (dst := some 35) (v := .int .i64 (k : Int)) rfl rfl (y_move (.tmp 3) rfl rfl rfl) hX0.out ?_
            go_frame
            refine held_tk (i := 5) (dst := some 36) (v := .pointer (some (A.add k))) rfl rfl (.inl ⟨rfl, fun u _ => by go_simp⟩) hX0.out ?_
            go_frame
            refine held_tk (i := 6) (dst := some 37) (v := .slice pq pn pc) rfl rfl (.inl ⟨rfl, fun u hu => by have y0 := p0.out u hu; go_simp⟩) hX0.out ?_
            go_frame
            refine held_call (i := 7) (dst := some 38) rfl rfl (by kernel_rfl) rfl (by go_simp) (hrl.out wr.drew hX0.out) ?_
            rintro e u5 ⟨rfl, hbb⟩
            have hX1 : Hid (Below wr.heap.size wr u5) := hX0.out.trans (hbb.mono hX0.out.size)
            clear hbb
            refine ⟨_, rfl, hX1.out, ?_⟩
            go_frame
            refine held_tk (i := 8) (dst := some 39) (v := .bool (!C)) rfl rfl (.inl ⟨rfl, fun u _ => by go_simp⟩) hX1.out ?_
            go_frame
            refine wpAnyH_done (by kernel_rfl) ?_ _
            have hb5 := Lib.hid (hb.out.trans (hX1.out.mono hb.out.size))
            clear hX0 hrl
            cases C with
            | true =>
              go_wp2
              go_roundw
              case rel =>
                refine ⟨k + 1, by omega, by go_num, hb5, fun i l hi hl => ?_⟩
                rcases Nat.lt_or_ge i k with h | h
                · exact hp.out i l h hl
                · obtain rfl : i = k := by omega
                  rw [hlk'.out] at hl
                  cases hl
                  exact hC'.out
              case measure => simp [Go.RowKit.intOf]; omega
            | false =>
              go_wp2
              go_ret
              exact ⟨by rw [sb_M hlk'.out hC'.out]; rfl, b3.out.trans (hb5.out.mono b3.out.size)⟩
          · obtain rfl : mn = k := by omega
            have hM : Hid (∀ (i : Nat) (l : List RowD), i < x.marks.length → x.marks[i]? = some l → okL x.bs l = true) := fun i l hi hl => hp.out i l (by have := hmn.out; omega) hl
            have c4 : wr.cell? ⟨w.heap.size, 4, none⟩ = some (.bool o) := sr.out.cell 4
            clear hp
            by_cases h8 : mn ≤ 8
            · have n8 : decide ((mn : Int) ≤ 8) = true := decide_eq_true (by omega)
              cases o with
              | false =>
                have hr : Hid (serB x = true) := sb_yes hS'.out hR2.out hR3.out hM.out (by have := hmn.out; omega) (fun e => by rw [← hov.out] at e; cases e)
                go_wp2
                go_ret
                exact ⟨by rw [hr.out]; rfl, br.out⟩
              | true =>
                by_cases h0 : 0 < mn
                · have n0 : decide ((0 : Int) < mn) = true := decide_eq_true (by omega)
                  have hr : Hid (serB x = false) := sb_no fun k => by
                    have h1 := k.2.1 hov.out.symm
                    have h2 := hmn.out
                    omega
                  go_wp2
                  go_ret
                  exact ⟨by rw [hr.out]; rfl, br.out⟩
                · have n0 : decide ((0 : Int) < mn) = false := decide_eq_false (by omega)
                  have hr : Hid (serB x = true) := sb_yes hS'.out hR2.out hR3.out hM.out (by have := hmn.out; omega) (fun _ => by have := hmn.out; omega)
                  go_wp2
                  go_ret
                  exact ⟨by rw [hr.out]; rfl, br.out⟩
            · have n8 : decide ((mn : Int) ≤ 8) = false := decide_eq_false (by omega)
              have hr : Hid (serB x = false) := sb_no fun k => by have := k.1; have := hmn.out; omega
              go_wp2
              go_ret
              exact ⟨by rw [hr.out]; rfl, br.out⟩
end Go.Proofs.Ytkdkncbccofpdaa
