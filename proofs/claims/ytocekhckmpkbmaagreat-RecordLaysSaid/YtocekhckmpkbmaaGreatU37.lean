/- The document's record: which pages, steps may be. -/
import Derived.Test.YtocekhckmpkbmaaGreatU30
import Derived.Test.YtocekhckmpkbmaaGreatU16
import Derived.Test.YtocekhckmpkbmaaGreatU01
namespace Go.Proofs.YtocekhckmpkbmaaGreat
open Go.RowKit
def pageB (p : Int) : Bool := decide (0 ≤ p) && decide (p < 64)
set_option maxRecDepth 100000 in
theorem page_doc (p : Int) (w : World) : Calls Tryz.prog 57 #[.int .i64 p] w (fun e w' => e = .returned (.bool (pageB p)) ∧ w' = w) := by
 unfold pageB
 go_enter Tryz.func57, Tryz.ntmps57
 by_cases h : 0 ≤ p
 · have d1 : decide (0 ≤ p) = true := decide_eq_true h; rw [d1]; go_wp2; go_ret; exact ⟨by simp, rfl⟩
 · have d1 : decide (0 ≤ p) = false := decide_eq_false h; rw [d1]; go_wp2; go_ret; exact ⟨by simp, rfl⟩
def stpD (s : StepD) : Bool := if s.kind = 1 then tabB s.row.key.t && bareB s else if s.kind = 2 then (s.by_ == 0) && okRow s.row else if s.kind = 3 then (s.by_ == 0) && okRow s.row else if s.kind = 4 then (tabB s.row.key.t && bareB s) && (s.by_ == 0) else false
theorem okRow_dec (r : RowD) : decide (chkRowC r = 0) = okRow r := by
 cases h : okRow r with
 | true => exact decide_eq_true (okRow_iff.1 h)
 | false => exact decide_eq_false (fun e => by rw [okRow_iff.2 e] at h; cases h)
theorem bareRow_ok {s : StepD} (h : bareB s = true) : okRow s.row = tabB s.row.key.t := by
 unfold bareB at h; have h1 := eqR_iff.1 h; unfold okRow; rw [show s.row.note = ⟨#[]⟩ from by rw [h1], show decide ((⟨#[]⟩ : ByteArray).size ≤ 8) = true from rfl, Bool.and_true]
theorem stpD_eq (s : StepD) : stpD s = stpB s := by
 unfold stpD stpB; rw [okRow_dec]
 by_cases h1 : s.kind = 1
 · rw [if_pos h1, if_pos h1]; cases hb : bareB s with
   | true => rw [bareRow_ok hb]
   | false => simp
 rw [if_neg h1, if_neg h1]
 by_cases h2 : s.kind = 2
 · rw [if_pos h2, if_pos h2, Bool.and_comm]
 rw [if_neg h2, if_neg h2]
 by_cases h3 : s.kind = 3
 · rw [if_pos h3, if_pos h3, Bool.and_comm]
 rw [if_neg h3, if_neg h3]
 by_cases h4 : s.kind = 4
 · rw [if_pos h4, if_pos h4]; cases hb : bareB s with
   | true => rw [bareRow_ok hb]; simp
   | false => simp
 rw [if_neg h4, if_neg h4, Bool.and_false]
set_option maxRecDepth 100000 in
set_option maxHeartbeats 8000000 in
theorem step_doc (kd t id v by_ : Int) (s : ByteArray) (w : World) :
 Calls Tryz.prog 59 #[.agg #[.int .i64 kd, .int .i64 t, .int .u16 id, .int .i64 v, .string s, .int .i64 by_]] w (fun e w' => e = .returned (.bool (stpB ⟨kd, ⟨⟨t, id⟩, v, s⟩, by_⟩)) ∧ Below w.heap.size w w') := by
 rw [← stpD_eq]; obtain ⟨W, hW⟩ : ∃ W, w.alloc (.cells #[.int .i64 kd, .int .i64 t, .int .u16 id, .int .i64 v, .string s, .int .i64 by_] 70) = W := ⟨_, rfl⟩; have hbx := lh (one_box hW)
 have hk0 : Hid (∀ j x, ([.int .i64 t, .int .u16 id] : List Value)[j]? = some x → W.cell? ((⟨w.heap.size, 1, none⟩ : Addr).add j) = some x) := Boxed.part hbx.out.2.1 (o := 1) (fun j x hj => by
  match j, hj with
  | 0, hj => exact hj
  | 1, hj => exact hj
  | j + 2, hj => simp at hj)
 have hsr := sizeRow t id v s; have hsz := sizeRow t id 0 ⟨#[]⟩; have hsk := sizeKey t id; obtain ⟨bb, hbb⟩ : ∃ b, eqR ⟨⟨t, id⟩, v, s⟩ ⟨⟨t, id⟩, 0, ⟨#[]⟩⟩ = b := ⟨_, rfl⟩; have heq := fun u => eql_row u t id v s t id 0 ⟨#[]⟩
 rw [hbb] at heq; obtain ⟨b0, hb0⟩ : ∃ b : Bool, (by_ == 0) = b := ⟨_, rfl⟩; obtain ⟨ok, hok⟩ : ∃ b : Bool, okRow ⟨⟨t, id⟩, v, s⟩ = b := ⟨_, rfl⟩; have hst : Hid (stpD ⟨kd, ⟨⟨t, id⟩, v, s⟩, by_⟩ = (if kd = 1 then tabB t && bb else if kd = 2 then b0 && ok else if kd = 3 then b0 && ok else if kd = 4 then (tabB t && bb) && b0 else false)) := by show _ = _; unfold stpD bareB; simp only; rw [hbb, hb0, hok]
 clear hbb; obtain ⟨Wz, hWz⟩ : ∃ W2, W.alloc (.cells #[.int .i64 0, .int .u16 0, .int .i64 0, .string ⟨#[]⟩] 68) = W2 := ⟨_, rfl⟩; have hbz := lh (one_box hWz); have hrz : Hid (RowV 68 Wz W.heap.size [.int .i64 0, .int .u16 0, .int .i64 0, .string ⟨#[]⟩]) := by show RowV _ _ _ _; rw [← hWz]; exact RowV.made W _
 have hWs : Hid (w.heap.size < W.heap.size) := by have h1 := hbx.out.2.2; show _ < _; omega
 have ho1 : ∀ x ∈ ([.int .i64 t, .int .u16 id, .int .i64 0, .string ⟨#[]⟩] : List Value), x.oneCell' = true := one_all rfl
 go_enter Tryz.func59, Tryz.ntmps59
 go_upto_region 2 with (first
  | (with_reducible refine wpList_load_at rfl 66 (.tmp 6) rfl Tryz.underlying66 rfl hsk rfl hk0.out ?_)
  | ((with_reducible refine wpList_store_at rfl 68 (.tmp 3) (.tmp 8) rfl (o := 0) (vs := [.int .i64 t, .int .u16 id, .int .i64 0, .string ⟨#[]⟩]) rfl rfl hrz.out hsz (Nat.le_refl _) ho1 ?_)
     intro W2 h9 hg9; have hro : Hid (RowV 68 W2 W.heap.size [.int .i64 t, .int .u16 id, .int .i64 0, .string ⟨#[]⟩]) := h9; have hg2 := lh hg9
     clear h9 hg9))
 clear hW hWz; have hbw : Hid (Below W.heap.size W W2) := hbz.out.1.trans (grown_belowN hg2.out hbz.out.1.size (fun k e => by cases e; exact Nat.le_refl _)); have hd2 := lh (below_step hbw.out hbx.out.1); have hb2 := lh (hbx.out.2.1.below hbw.out (Nat.le_refl _))
 have hrw : Hid (∀ j x, ([.int .i64 t, .int .u16 id, .int .i64 v, .string s] : List Value)[j]? = some x → W2.cell? ((⟨w.heap.size, 1, none⟩ : Addr).add j) = some x) := Boxed.part hb2.out (o := 1) (fun j x hj => by
  match j, hj with
  | 0, hj => exact hj
  | 1, hj => exact hj
  | 2, hj => exact hj
  | 3, hj => exact hj
  | j + 4, hj => simp at hj)
 have hrr := rightRow_any t id v s W2; rw [hok] at hrr; have hrr := lh hrr; have e0 := hb2.out.cell 0 rfl; have e1 := hb2.out.cell 1 rfl; have e5 := hb2.out.cell 5 rfl; obtain ⟨T, hT⟩ : ∃ T, tabB t = T := ⟨_, rfl⟩; rw [hT] at hst
 have hcs : (∃ z : Bool, decide (0 ≤ t) = z ∧ ((z = false ∧ T = false) ∨ (z = true ∧ decide (t < 3) = T))) := by
  rw [← hT]; unfold tabB
  by_cases h : 0 ≤ t
  · exact ⟨true, decide_eq_true h, .inr ⟨rfl, by rw [decide_eq_true h]; simp⟩⟩
  · exact ⟨false, decide_eq_false h, .inl ⟨rfl, by rw [decide_eq_false h]; rfl⟩⟩
 obtain ⟨z, hz, hcs⟩ := hcs; clear hT; rcases hcs with ⟨rfl, rfl⟩ | ⟨rfl, hT3⟩
 · by_cases n1 : kd = 1
   · subst n1; have hres : Hid (stpD ⟨1, ⟨⟨t, id⟩, v, s⟩, by_⟩ = false) := by show _ = _; rw [hst.out]; simp
     clear hst
     go_wp2_with (first
      | (with_reducible refine wpList_load_at rfl 66 (.tmp 6) rfl Tryz.underlying66 rfl hsk rfl hk0.out ?_)
      | ((with_reducible refine wpList_load_g ?_ 68 (.tmp 27) rfl Tryz.underlying68 rfl hsr rfl hrw.out ?_); exact rfl)
      | ((with_reducible refine wpList_load_g ?_ 68 (.tmp 3) rfl Tryz.underlying68 rfl hsz rfl hro.out.boxed.all ?_); exact rfl)
      | ((with_reducible refine wpList_load_g ?_ 68 (.tmp 39) rfl Tryz.underlying68 rfl hsr rfl hrw.out ?_); exact rfl)
      | ((with_reducible refine wpList_load_g ?_ 68 (.tmp 47) rfl Tryz.underlying68 rfl hsr rfl hrw.out ?_); exact rfl))
     go_ret; exact ⟨by rw [hres.out]; rfl, hd2.out⟩
   by_cases n2 : kd = 2
   · subst n2; have hres : Hid (stpD ⟨2, ⟨⟨t, id⟩, v, s⟩, by_⟩ = (b0 && ok)) := by show _ = _; rw [hst.out]; rfl
     clear hst; cases b0 with
     | false =>
       go_wp2_with (first
        | (with_reducible refine wpList_load_at rfl 66 (.tmp 6) rfl Tryz.underlying66 rfl hsk rfl hk0.out ?_)
        | ((with_reducible refine wpList_load_g ?_ 68 (.tmp 27) rfl Tryz.underlying68 rfl hsr rfl hrw.out ?_); exact rfl)
        | ((with_reducible refine wpList_load_g ?_ 68 (.tmp 3) rfl Tryz.underlying68 rfl hsz rfl hro.out.boxed.all ?_); exact rfl)
        | ((with_reducible refine wpList_load_g ?_ 68 (.tmp 39) rfl Tryz.underlying68 rfl hsr rfl hrw.out ?_); exact rfl)
        | ((with_reducible refine wpList_load_g ?_ 68 (.tmp 47) rfl Tryz.underlying68 rfl hsr rfl hrw.out ?_); exact rfl))
       go_ret; exact ⟨by rw [hres.out]; rfl, hd2.out⟩
     | true =>
       go_wp2_with (first
        | (with_reducible refine wpList_load_at rfl 66 (.tmp 6) rfl Tryz.underlying66 rfl hsk rfl hk0.out ?_)
        | ((with_reducible refine wpList_load_g ?_ 68 (.tmp 27) rfl Tryz.underlying68 rfl hsr rfl hrw.out ?_); exact rfl)
        | ((with_reducible refine wpList_load_g ?_ 68 (.tmp 3) rfl Tryz.underlying68 rfl hsz rfl hro.out.boxed.all ?_); exact rfl)
        | ((with_reducible refine wpList_load_g ?_ 68 (.tmp 39) rfl Tryz.underlying68 rfl hsr rfl hrw.out ?_); exact rfl)
        | ((with_reducible refine wpList_load_g ?_ 68 (.tmp 47) rfl Tryz.underlying68 rfl hsr rfl hrw.out ?_); exact rfl))
       refine hrr.out.mono ?_; rintro e w9 ⟨rfl, hb9⟩; have hdE : Hid (Below w.heap.size w w9) := below_step hb9 hd2.out; clear hb9; go_wp2; go_ret; exact ⟨by rw [hres.out]; rfl, hdE.out⟩
   by_cases n3 : kd = 3
   · subst n3; have hres : Hid (stpD ⟨3, ⟨⟨t, id⟩, v, s⟩, by_⟩ = (b0 && ok)) := by show _ = _; rw [hst.out]; rfl
     clear hst; cases b0 with
     | false =>
       go_wp2_with (first
        | (with_reducible refine wpList_load_at rfl 66 (.tmp 6) rfl Tryz.underlying66 rfl hsk rfl hk0.out ?_)
        | ((with_reducible refine wpList_load_g ?_ 68 (.tmp 27) rfl Tryz.underlying68 rfl hsr rfl hrw.out ?_); exact rfl)
        | ((with_reducible refine wpList_load_g ?_ 68 (.tmp 3) rfl Tryz.underlying68 rfl hsz rfl hro.out.boxed.all ?_); exact rfl)
        | ((with_reducible refine wpList_load_g ?_ 68 (.tmp 39) rfl Tryz.underlying68 rfl hsr rfl hrw.out ?_); exact rfl)
        | ((with_reducible refine wpList_load_g ?_ 68 (.tmp 47) rfl Tryz.underlying68 rfl hsr rfl hrw.out ?_); exact rfl))
       go_ret; exact ⟨by rw [hres.out]; rfl, hd2.out⟩
     | true =>
       go_wp2_with (first
        | (with_reducible refine wpList_load_at rfl 66 (.tmp 6) rfl Tryz.underlying66 rfl hsk rfl hk0.out ?_)
        | ((with_reducible refine wpList_load_g ?_ 68 (.tmp 27) rfl Tryz.underlying68 rfl hsr rfl hrw.out ?_); exact rfl)
        | ((with_reducible refine wpList_load_g ?_ 68 (.tmp 3) rfl Tryz.underlying68 rfl hsz rfl hro.out.boxed.all ?_); exact rfl)
        | ((with_reducible refine wpList_load_g ?_ 68 (.tmp 39) rfl Tryz.underlying68 rfl hsr rfl hrw.out ?_); exact rfl)
        | ((with_reducible refine wpList_load_g ?_ 68 (.tmp 47) rfl Tryz.underlying68 rfl hsr rfl hrw.out ?_); exact rfl))
       refine hrr.out.mono ?_; rintro e w9 ⟨rfl, hb9⟩; have hdE : Hid (Below w.heap.size w w9) := below_step hb9 hd2.out; clear hb9; go_wp2; go_ret; exact ⟨by rw [hres.out]; rfl, hdE.out⟩
   by_cases n4 : kd = 4
   · subst n4; have hres : Hid (stpD ⟨4, ⟨⟨t, id⟩, v, s⟩, by_⟩ = false) := by show _ = _; rw [hst.out]; simp
     clear hst
     go_wp2_with (first
      | (with_reducible refine wpList_load_at rfl 66 (.tmp 6) rfl Tryz.underlying66 rfl hsk rfl hk0.out ?_)
      | ((with_reducible refine wpList_load_g ?_ 68 (.tmp 27) rfl Tryz.underlying68 rfl hsr rfl hrw.out ?_); exact rfl)
      | ((with_reducible refine wpList_load_g ?_ 68 (.tmp 3) rfl Tryz.underlying68 rfl hsz rfl hro.out.boxed.all ?_); exact rfl)
      | ((with_reducible refine wpList_load_g ?_ 68 (.tmp 39) rfl Tryz.underlying68 rfl hsr rfl hrw.out ?_); exact rfl)
      | ((with_reducible refine wpList_load_g ?_ 68 (.tmp 47) rfl Tryz.underlying68 rfl hsr rfl hrw.out ?_); exact rfl))
     go_ret; exact ⟨by rw [hres.out]; rfl, hd2.out⟩
   have hres : Hid (stpD ⟨kd, ⟨⟨t, id⟩, v, s⟩, by_⟩ = false) := by show _ = _; rw [hst.out, if_neg n1, if_neg n2, if_neg n3, if_neg n4]
   have m1 : (kd == 1) = false := by simpa using n1
   have m2 : (kd == 2) = false := by simpa using n2
   have m3 : (kd == 3) = false := by simpa using n3
   have m4 : (kd == 4) = false := by simpa using n4
   clear n1 n2 n3 n4; clear hst
   go_wp2_with (first
    | (with_reducible refine wpList_load_at rfl 66 (.tmp 6) rfl Tryz.underlying66 rfl hsk rfl hk0.out ?_)
    | ((with_reducible refine wpList_load_g ?_ 68 (.tmp 27) rfl Tryz.underlying68 rfl hsr rfl hrw.out ?_); exact rfl)
    | ((with_reducible refine wpList_load_g ?_ 68 (.tmp 3) rfl Tryz.underlying68 rfl hsz rfl hro.out.boxed.all ?_); exact rfl)
    | ((with_reducible refine wpList_load_g ?_ 68 (.tmp 39) rfl Tryz.underlying68 rfl hsr rfl hrw.out ?_); exact rfl)
    | ((with_reducible refine wpList_load_g ?_ 68 (.tmp 47) rfl Tryz.underlying68 rfl hsr rfl hrw.out ?_); exact rfl))
   go_ret; exact ⟨by rw [hres.out]; rfl, hd2.out⟩
 · cases T with
   | false =>
     by_cases n1 : kd = 1
     · subst n1; have hres : Hid (stpD ⟨1, ⟨⟨t, id⟩, v, s⟩, by_⟩ = false) := by show _ = _; rw [hst.out]; simp
       clear hst
       go_wp2_with (first
        | (with_reducible refine wpList_load_at rfl 66 (.tmp 6) rfl Tryz.underlying66 rfl hsk rfl hk0.out ?_)
        | ((with_reducible refine wpList_load_g ?_ 68 (.tmp 27) rfl Tryz.underlying68 rfl hsr rfl hrw.out ?_); exact rfl)
        | ((with_reducible refine wpList_load_g ?_ 68 (.tmp 3) rfl Tryz.underlying68 rfl hsz rfl hro.out.boxed.all ?_); exact rfl)
        | ((with_reducible refine wpList_load_g ?_ 68 (.tmp 39) rfl Tryz.underlying68 rfl hsr rfl hrw.out ?_); exact rfl)
        | ((with_reducible refine wpList_load_g ?_ 68 (.tmp 47) rfl Tryz.underlying68 rfl hsr rfl hrw.out ?_); exact rfl))
       go_ret; exact ⟨by rw [hres.out]; rfl, hd2.out⟩
     by_cases n2 : kd = 2
     · subst n2; have hres : Hid (stpD ⟨2, ⟨⟨t, id⟩, v, s⟩, by_⟩ = (b0 && ok)) := by show _ = _; rw [hst.out]; rfl
       clear hst; cases b0 with
       | false =>
         go_wp2_with (first
          | (with_reducible refine wpList_load_at rfl 66 (.tmp 6) rfl Tryz.underlying66 rfl hsk rfl hk0.out ?_)
          | ((with_reducible refine wpList_load_g ?_ 68 (.tmp 27) rfl Tryz.underlying68 rfl hsr rfl hrw.out ?_); exact rfl)
          | ((with_reducible refine wpList_load_g ?_ 68 (.tmp 3) rfl Tryz.underlying68 rfl hsz rfl hro.out.boxed.all ?_); exact rfl)
          | ((with_reducible refine wpList_load_g ?_ 68 (.tmp 39) rfl Tryz.underlying68 rfl hsr rfl hrw.out ?_); exact rfl)
          | ((with_reducible refine wpList_load_g ?_ 68 (.tmp 47) rfl Tryz.underlying68 rfl hsr rfl hrw.out ?_); exact rfl))
         go_ret; exact ⟨by rw [hres.out]; rfl, hd2.out⟩
       | true =>
         go_wp2_with (first
          | (with_reducible refine wpList_load_at rfl 66 (.tmp 6) rfl Tryz.underlying66 rfl hsk rfl hk0.out ?_)
          | ((with_reducible refine wpList_load_g ?_ 68 (.tmp 27) rfl Tryz.underlying68 rfl hsr rfl hrw.out ?_); exact rfl)
          | ((with_reducible refine wpList_load_g ?_ 68 (.tmp 3) rfl Tryz.underlying68 rfl hsz rfl hro.out.boxed.all ?_); exact rfl)
          | ((with_reducible refine wpList_load_g ?_ 68 (.tmp 39) rfl Tryz.underlying68 rfl hsr rfl hrw.out ?_); exact rfl)
          | ((with_reducible refine wpList_load_g ?_ 68 (.tmp 47) rfl Tryz.underlying68 rfl hsr rfl hrw.out ?_); exact rfl))
         refine hrr.out.mono ?_; rintro e w9 ⟨rfl, hb9⟩; have hdE : Hid (Below w.heap.size w w9) := below_step hb9 hd2.out; clear hb9; go_wp2; go_ret; exact ⟨by rw [hres.out]; rfl, hdE.out⟩
     by_cases n3 : kd = 3
     · subst n3; have hres : Hid (stpD ⟨3, ⟨⟨t, id⟩, v, s⟩, by_⟩ = (b0 && ok)) := by show _ = _; rw [hst.out]; rfl
       clear hst; cases b0 with
       | false =>
         go_wp2_with (first
          | (with_reducible refine wpList_load_at rfl 66 (.tmp 6) rfl Tryz.underlying66 rfl hsk rfl hk0.out ?_)
          | ((with_reducible refine wpList_load_g ?_ 68 (.tmp 27) rfl Tryz.underlying68 rfl hsr rfl hrw.out ?_); exact rfl)
          | ((with_reducible refine wpList_load_g ?_ 68 (.tmp 3) rfl Tryz.underlying68 rfl hsz rfl hro.out.boxed.all ?_); exact rfl)
          | ((with_reducible refine wpList_load_g ?_ 68 (.tmp 39) rfl Tryz.underlying68 rfl hsr rfl hrw.out ?_); exact rfl)
          | ((with_reducible refine wpList_load_g ?_ 68 (.tmp 47) rfl Tryz.underlying68 rfl hsr rfl hrw.out ?_); exact rfl))
         go_ret; exact ⟨by rw [hres.out]; rfl, hd2.out⟩
       | true =>
         go_wp2_with (first
          | (with_reducible refine wpList_load_at rfl 66 (.tmp 6) rfl Tryz.underlying66 rfl hsk rfl hk0.out ?_)
          | ((with_reducible refine wpList_load_g ?_ 68 (.tmp 27) rfl Tryz.underlying68 rfl hsr rfl hrw.out ?_); exact rfl)
          | ((with_reducible refine wpList_load_g ?_ 68 (.tmp 3) rfl Tryz.underlying68 rfl hsz rfl hro.out.boxed.all ?_); exact rfl)
          | ((with_reducible refine wpList_load_g ?_ 68 (.tmp 39) rfl Tryz.underlying68 rfl hsr rfl hrw.out ?_); exact rfl)
          | ((with_reducible refine wpList_load_g ?_ 68 (.tmp 47) rfl Tryz.underlying68 rfl hsr rfl hrw.out ?_); exact rfl))
         refine hrr.out.mono ?_; rintro e w9 ⟨rfl, hb9⟩; have hdE : Hid (Below w.heap.size w w9) := below_step hb9 hd2.out; clear hb9; go_wp2; go_ret; exact ⟨by rw [hres.out]; rfl, hdE.out⟩
     by_cases n4 : kd = 4
     · subst n4; have hres : Hid (stpD ⟨4, ⟨⟨t, id⟩, v, s⟩, by_⟩ = false) := by show _ = _; rw [hst.out]; simp
       clear hst
       go_wp2_with (first
        | (with_reducible refine wpList_load_at rfl 66 (.tmp 6) rfl Tryz.underlying66 rfl hsk rfl hk0.out ?_)
        | ((with_reducible refine wpList_load_g ?_ 68 (.tmp 27) rfl Tryz.underlying68 rfl hsr rfl hrw.out ?_); exact rfl)
        | ((with_reducible refine wpList_load_g ?_ 68 (.tmp 3) rfl Tryz.underlying68 rfl hsz rfl hro.out.boxed.all ?_); exact rfl)
        | ((with_reducible refine wpList_load_g ?_ 68 (.tmp 39) rfl Tryz.underlying68 rfl hsr rfl hrw.out ?_); exact rfl)
        | ((with_reducible refine wpList_load_g ?_ 68 (.tmp 47) rfl Tryz.underlying68 rfl hsr rfl hrw.out ?_); exact rfl))
       go_ret; exact ⟨by rw [hres.out]; rfl, hd2.out⟩
     have hres : Hid (stpD ⟨kd, ⟨⟨t, id⟩, v, s⟩, by_⟩ = false) := by show _ = _; rw [hst.out, if_neg n1, if_neg n2, if_neg n3, if_neg n4]
     have m1 : (kd == 1) = false := by simpa using n1
     have m2 : (kd == 2) = false := by simpa using n2
     have m3 : (kd == 3) = false := by simpa using n3
     have m4 : (kd == 4) = false := by simpa using n4
     clear n1 n2 n3 n4; clear hst
     go_wp2_with (first
      | (with_reducible refine wpList_load_at rfl 66 (.tmp 6) rfl Tryz.underlying66 rfl hsk rfl hk0.out ?_)
      | ((with_reducible refine wpList_load_g ?_ 68 (.tmp 27) rfl Tryz.underlying68 rfl hsr rfl hrw.out ?_); exact rfl)
      | ((with_reducible refine wpList_load_g ?_ 68 (.tmp 3) rfl Tryz.underlying68 rfl hsz rfl hro.out.boxed.all ?_); exact rfl)
      | ((with_reducible refine wpList_load_g ?_ 68 (.tmp 39) rfl Tryz.underlying68 rfl hsr rfl hrw.out ?_); exact rfl)
      | ((with_reducible refine wpList_load_g ?_ 68 (.tmp 47) rfl Tryz.underlying68 rfl hsr rfl hrw.out ?_); exact rfl))
     go_ret; exact ⟨by rw [hres.out]; rfl, hd2.out⟩
   | true =>
     by_cases n1 : kd = 1
     · subst n1; have hres : Hid (stpD ⟨1, ⟨⟨t, id⟩, v, s⟩, by_⟩ = bb) := by show _ = _; rw [hst.out]; simp
       clear hst
       go_wp2_with (first
        | (with_reducible refine wpList_load_at rfl 66 (.tmp 6) rfl Tryz.underlying66 rfl hsk rfl hk0.out ?_)
        | ((with_reducible refine wpList_load_g ?_ 68 (.tmp 27) rfl Tryz.underlying68 rfl hsr rfl hrw.out ?_); exact rfl)
        | ((with_reducible refine wpList_load_g ?_ 68 (.tmp 3) rfl Tryz.underlying68 rfl hsz rfl hro.out.boxed.all ?_); exact rfl)
        | ((with_reducible refine wpList_load_g ?_ 68 (.tmp 39) rfl Tryz.underlying68 rfl hsr rfl hrw.out ?_); exact rfl)
        | ((with_reducible refine wpList_load_g ?_ 68 (.tmp 47) rfl Tryz.underlying68 rfl hsr rfl hrw.out ?_); exact rfl))
       go_ret; exact ⟨by rw [hres.out]; rfl, hd2.out⟩
     by_cases n2 : kd = 2
     · subst n2; have hres : Hid (stpD ⟨2, ⟨⟨t, id⟩, v, s⟩, by_⟩ = (b0 && ok)) := by show _ = _; rw [hst.out]; rfl
       clear hst; cases b0 with
       | false =>
         go_wp2_with (first
          | (with_reducible refine wpList_load_at rfl 66 (.tmp 6) rfl Tryz.underlying66 rfl hsk rfl hk0.out ?_)
          | ((with_reducible refine wpList_load_g ?_ 68 (.tmp 27) rfl Tryz.underlying68 rfl hsr rfl hrw.out ?_); exact rfl)
          | ((with_reducible refine wpList_load_g ?_ 68 (.tmp 3) rfl Tryz.underlying68 rfl hsz rfl hro.out.boxed.all ?_); exact rfl)
          | ((with_reducible refine wpList_load_g ?_ 68 (.tmp 39) rfl Tryz.underlying68 rfl hsr rfl hrw.out ?_); exact rfl)
          | ((with_reducible refine wpList_load_g ?_ 68 (.tmp 47) rfl Tryz.underlying68 rfl hsr rfl hrw.out ?_); exact rfl))
         go_ret; exact ⟨by rw [hres.out]; rfl, hd2.out⟩
       | true =>
         go_wp2_with (first
          | (with_reducible refine wpList_load_at rfl 66 (.tmp 6) rfl Tryz.underlying66 rfl hsk rfl hk0.out ?_)
          | ((with_reducible refine wpList_load_g ?_ 68 (.tmp 27) rfl Tryz.underlying68 rfl hsr rfl hrw.out ?_); exact rfl)
          | ((with_reducible refine wpList_load_g ?_ 68 (.tmp 3) rfl Tryz.underlying68 rfl hsz rfl hro.out.boxed.all ?_); exact rfl)
          | ((with_reducible refine wpList_load_g ?_ 68 (.tmp 39) rfl Tryz.underlying68 rfl hsr rfl hrw.out ?_); exact rfl)
          | ((with_reducible refine wpList_load_g ?_ 68 (.tmp 47) rfl Tryz.underlying68 rfl hsr rfl hrw.out ?_); exact rfl))
         refine hrr.out.mono ?_; rintro e w9 ⟨rfl, hb9⟩; have hdE : Hid (Below w.heap.size w w9) := below_step hb9 hd2.out; clear hb9; go_wp2; go_ret; exact ⟨by rw [hres.out]; rfl, hdE.out⟩
     by_cases n3 : kd = 3
     · subst n3; have hres : Hid (stpD ⟨3, ⟨⟨t, id⟩, v, s⟩, by_⟩ = (b0 && ok)) := by show _ = _; rw [hst.out]; rfl
       clear hst; cases b0 with
       | false =>
         go_wp2_with (first
          | (with_reducible refine wpList_load_at rfl 66 (.tmp 6) rfl Tryz.underlying66 rfl hsk rfl hk0.out ?_)
          | ((with_reducible refine wpList_load_g ?_ 68 (.tmp 27) rfl Tryz.underlying68 rfl hsr rfl hrw.out ?_); exact rfl)
          | ((with_reducible refine wpList_load_g ?_ 68 (.tmp 3) rfl Tryz.underlying68 rfl hsz rfl hro.out.boxed.all ?_); exact rfl)
          | ((with_reducible refine wpList_load_g ?_ 68 (.tmp 39) rfl Tryz.underlying68 rfl hsr rfl hrw.out ?_); exact rfl)
          | ((with_reducible refine wpList_load_g ?_ 68 (.tmp 47) rfl Tryz.underlying68 rfl hsr rfl hrw.out ?_); exact rfl))
         go_ret; exact ⟨by rw [hres.out]; rfl, hd2.out⟩
       | true =>
         go_wp2_with (first
          | (with_reducible refine wpList_load_at rfl 66 (.tmp 6) rfl Tryz.underlying66 rfl hsk rfl hk0.out ?_)
          | ((with_reducible refine wpList_load_g ?_ 68 (.tmp 27) rfl Tryz.underlying68 rfl hsr rfl hrw.out ?_); exact rfl)
          | ((with_reducible refine wpList_load_g ?_ 68 (.tmp 3) rfl Tryz.underlying68 rfl hsz rfl hro.out.boxed.all ?_); exact rfl)
          | ((with_reducible refine wpList_load_g ?_ 68 (.tmp 39) rfl Tryz.underlying68 rfl hsr rfl hrw.out ?_); exact rfl)
          | ((with_reducible refine wpList_load_g ?_ 68 (.tmp 47) rfl Tryz.underlying68 rfl hsr rfl hrw.out ?_); exact rfl))
         refine hrr.out.mono ?_; rintro e w9 ⟨rfl, hb9⟩; have hdE : Hid (Below w.heap.size w w9) := below_step hb9 hd2.out; clear hb9; go_wp2; go_ret; exact ⟨by rw [hres.out]; rfl, hdE.out⟩
     by_cases n4 : kd = 4
     · subst n4; have hres : Hid (stpD ⟨4, ⟨⟨t, id⟩, v, s⟩, by_⟩ = (bb && b0)) := by show _ = _; rw [hst.out]; simp
       clear hst; cases bb
       all_goals
        go_wp2_with (first
         | (with_reducible refine wpList_load_at rfl 66 (.tmp 6) rfl Tryz.underlying66 rfl hsk rfl hk0.out ?_)
         | ((with_reducible refine wpList_load_g ?_ 68 (.tmp 27) rfl Tryz.underlying68 rfl hsr rfl hrw.out ?_); exact rfl)
         | ((with_reducible refine wpList_load_g ?_ 68 (.tmp 3) rfl Tryz.underlying68 rfl hsz rfl hro.out.boxed.all ?_); exact rfl)
         | ((with_reducible refine wpList_load_g ?_ 68 (.tmp 39) rfl Tryz.underlying68 rfl hsr rfl hrw.out ?_); exact rfl)
         | ((with_reducible refine wpList_load_g ?_ 68 (.tmp 47) rfl Tryz.underlying68 rfl hsr rfl hrw.out ?_); exact rfl))
        go_ret; exact ⟨by rw [hres.out]; rfl, hd2.out⟩
     have hres : Hid (stpD ⟨kd, ⟨⟨t, id⟩, v, s⟩, by_⟩ = false) := by show _ = _; rw [hst.out, if_neg n1, if_neg n2, if_neg n3, if_neg n4]
     have m1 : (kd == 1) = false := by simpa using n1
     have m2 : (kd == 2) = false := by simpa using n2
     have m3 : (kd == 3) = false := by simpa using n3
     have m4 : (kd == 4) = false := by simpa using n4
     clear n1 n2 n3 n4; clear hst
     go_wp2_with (first
      | (with_reducible refine wpList_load_at rfl 66 (.tmp 6) rfl Tryz.underlying66 rfl hsk rfl hk0.out ?_)
      | ((with_reducible refine wpList_load_g ?_ 68 (.tmp 27) rfl Tryz.underlying68 rfl hsr rfl hrw.out ?_); exact rfl)
      | ((with_reducible refine wpList_load_g ?_ 68 (.tmp 3) rfl Tryz.underlying68 rfl hsz rfl hro.out.boxed.all ?_); exact rfl)
      | ((with_reducible refine wpList_load_g ?_ 68 (.tmp 39) rfl Tryz.underlying68 rfl hsr rfl hrw.out ?_); exact rfl)
      | ((with_reducible refine wpList_load_g ?_ 68 (.tmp 47) rfl Tryz.underlying68 rfl hsr rfl hrw.out ?_); exact rfl))
     go_ret; exact ⟨by rw [hres.out]; rfl, hd2.out⟩
set_option maxRecDepth 100000 in
set_option maxHeartbeats 8000000 in
theorem steps_doc (q : Option Addr) (n c : Nat) (L : List StepD) (w : World) (h : SlOn w q n c L) :
 Calls Tryz.prog 32 #[.slice q n c] w (fun e w' => e = .returned (.bool (stpsB L)) ∧ Below w.heap.size w w') := by
 have hh := lh h; have hLl : Hid (L.length = n) := h.len; have hmax : n ≤ maxLen := Nat.le_trans h.le h.cap; unfold maxLen at hmax; clear h
 go_enter Tryz.func32, Tryz.ntmps32
 go_wp2
 go_loopw [7] (fun v wr => ∃ j : Nat, j ≤ n ∧ v = .int .i64 j ∧ Hid (Below w.heap.size w wr) ∧ Hid (∀ (i : Nat) x, i < j → L[i]? = some x → stpB x = true)) (fun v _ => n - (RowKit.intOf v).toNat)
 case atStart => exact ⟨0, Nat.zero_le _, rfl, (show Below _ _ _ from Below.refl _ _), fun i x hi => absurd hi (Nat.not_lt_zero _)⟩
 case round =>
  obtain ⟨j, hj, rfl, hd, hq⟩ := hrel
  by_cases hlt : j < n
  · obtain ⟨A, ⟨sk, ⟨⟨t, id⟩, v, s⟩, by_⟩, hqA, hx, hcA⟩ := (hh.out.below hd.out (Nat.le_refl _)).at hlt; subst hqA; have hcA : Hid (∀ j' x, ([.int .i64 sk, .int .i64 t, .int .u16 id, .int .i64 v, .string s, .int .i64 by_] : List Value)[j']? = some x → wr.cell? ((A.add (j * 6)).add j') = some x) := hcA; have hs : (Tryz.prog.info? 70).map (·.size) = some ([.int .i64 sk, .int .i64 t, .int .u16 id, .int .i64 v, .string s, .int .i64 by_] : List Value).length := sizeStep ⟨sk, ⟨⟨t, id⟩, v, s⟩, by_⟩; have hx := lh hx; have i0 : (0 : Int) ≤ j := by omega
    have i1 : (j : Int) < n := by omega
    obtain ⟨we, hwe⟩ : ∃ x, wr.alloc (.cells #[.int .i64 sk, .int .i64 t, .int .u16 id, .int .i64 v, .string s, .int .i64 by_] 70) = x := ⟨_, rfl⟩; have hbk := lh (one_box hwe); have hde := lh (below_step hbk.out.1 hd.out); obtain ⟨B, hB⟩ : ∃ B, stpB ⟨sk, ⟨⟨t, id⟩, v, s⟩, by_⟩ = B := ⟨_, rfl⟩; have hsd := step_doc sk t id v by_ s we; rw [hB] at hsd; replace hsd := lh hsd; replace hB := lh hB
    go_wp2_with (first
     | (with_reducible refine wpList_load_at rfl 70 (.tmp 9) rfl Tryz.underlying70 rfl hs rfl hcA.out ?_)
     | (with_reducible refine wpList_load_at rfl 70 (.tmp 4) rfl Tryz.underlying70 rfl hs rfl hbk.out.2.1.all ?_))
    clear hwe; refine hsd.out.mono ?_; clear hsd; rintro e w3 ⟨rfl, hb3⟩; have hd3 := lh (below_step hb3 hde.out); clear hb3; cases B with
    | false =>
      go_wp2; go_ret; refine ⟨?_, hd3.out⟩
      have hno : stpsB L = false := by unfold stpsB; rw [Bool.eq_false_iff]; intro h; simp only [Bool.and_eq_true] at h; have h1 := List.all_eq_true.1 h.2.2 _ (List.mem_of_getElem? hx.out); rw [hB.out] at h1; cases h1
      rw [hno]; rfl
    | true =>
      have hnew : Hid (∀ (i : Nat) x, i < j + 1 → L[i]? = some x → stpB x = true) := fun i x hi hxi => by
       rcases Nat.lt_or_ge i j with h | h
       · exact hq.out i x h hxi
       · obtain rfl : i = j := by omega
         rw [hx.out] at hxi; cases hxi; exact hB.out
      go_wp2
      go_roundw
      case rel => exact ⟨j + 1, by omega, by go_num, hd3, hnew⟩
      case measure => simp [RowKit.intOf]; omega
  · obtain rfl : n = j := by omega
    have hall : Hid (stpsB L = (decide (1 ≤ (n : Int)) && decide ((n : Int) ≤ 2))) := by
     have h1 : L.all stpB = true := List.all_eq_true.2 (fun x hx => by
      obtain ⟨i, hi⟩ := List.mem_iff_getElem?.1 hx
      exact hq.out i x (by have := (List.getElem?_eq_some_iff.1 hi).1; have h2 := hLl.out; omega) hi)
     show _ = _; unfold stpsB; rw [h1, hLl.out]; have a1 : decide (1 ≤ n) = decide ((1 : Int) ≤ n) := decide_eq_decide.2 (by omega); have a2 : decide (n ≤ 2) = decide ((n : Int) ≤ 2) := decide_eq_decide.2 (by omega); rw [a1, a2, Bool.and_true]
    by_cases h1 : (1 : Int) ≤ n
    · have d1 : decide ((1 : Int) ≤ n) = true := decide_eq_true h1
      go_wp2; go_ret; exact ⟨by rw [hall.out, d1]; simp, hd.out⟩
    · have d1 : decide ((1 : Int) ≤ n) = false := decide_eq_false h1
      go_wp2; go_ret; exact ⟨by rw [hall.out, d1]; simp, hd.out⟩
end Go.Proofs.YtocekhckmpkbmaaGreat
