/- refused of the document's ideal. -/
import Derived.Test.YtkdkncbccofpdaaQ22
namespace Go.Proofs.Ytkdkncbccofpdaa
open Go.ChangeShapes Go.WideShapes Go.ChangeAt Go.RowKit Go.Deep Go.Joins
set_option maxRecDepth 100000
def RfPost (bs : List BdD) (l : List RowD) (q : ReqD) (w : World) (e : Ending) (w' : World) : Prop := e = .returned (.int .i64 (refE bs l q)) ∧ Below w.heap.size w w'
theorem neg_int (v : Int) (h : 0 ≤ v ∧ v ≤ 9223372036854775807) : (IntKind.i64.wrap (0 - v) : Int) = -v := by
 rw [IntKind.wrap_i64]
 omega
theorem neg_int' (v : Int) (h : 0 ≤ v ∧ v ≤ 9223372036854775807) : (IntKind.i64.wrap (-v) : Int) = -v := by
 rw [IntKind.wrap_i64]
 omega
set_option maxHeartbeats 4000000 in
theorem ref_1 (kt ki tt ti qv : Int) (qs : ByteArray) (qn : Int) (tq : Option Addr) (tn tc : Nat) (bs : List BdD) (lq : Option Addr) (ln lc : Nat) (l : List RowD) (w : World) (h : SchOn w tq tn tc bs) (hr : RowsOn w lq ln lc l) (hc : chkList bs l = 0) (hrq : reqB bs ⟨1, ⟨kt, ki⟩, ⟨tt, ti⟩, qv, qs, qn⟩ = true) :
 Calls Try.prog 44 #[.agg #[.int .i64 1, .int .i64 kt, .int .u16 ki, .int .i64 tt, .int .u16 ti, .int .i64 qv, .string qs, .int .i64 qn], .agg #[.slice tq tn tc], .slice lq ln lc, .int .i64 (findAt l ⟨kt, ki⟩)] w (RfPost bs l ⟨1, ⟨kt, ki⟩, ⟨tt, ti⟩, qv, qs, qn⟩ w) := by
 have hkey := (key_of hrq (by simp)).1
 obtain ⟨W, hW⟩ : ∃ W, (w.alloc (.cells #[.int .i64 1, .int .i64 kt, .int .u16 ki, .int .i64 tt, .int .u16 ti, .int .i64 qv, .string qs, .int .i64 qn] 30)).alloc (.cells #[.slice tq tn tc] 24) = W := ⟨_, rfl⟩
 have hbx := Lib.hid (two_rowsI (xs := [.int .i64 1, .int .i64 kt, .int .u16 ki, .int .i64 tt, .int .u16 ti, .int .i64 qv, .string qs, .int .i64 qn]) (ys := [.slice tq tn tc]) hW)
 have b0 := Lib.hid hbx.out.1
 have q0 := Lib.hid hbx.out.2.1
 have s0 := Lib.hid hbx.out.2.2.1
 have y0 : W.cell? ⟨w.heap.size, 0, none⟩ = some (.int .i64 1) := q0.out.cell 0
 have hh := Lib.hid (h.below b0.out (Nat.le_refl _))
 have hrr := Lib.hid (hr.below b0.out (Nat.le_refl _))
 have hkey' := Lib.hid hkey
 have h60 := ((okL_good bs l).1 (chkList_zero hc).2).1
 have hll := hr.len
 have hm := Nat.le_trans hr.le hr.cap
 unfold maxLen at hm
 have hchk := Lib.hid hc
 unfold RfPost
 clear hbx hkey h hr hc
 cases hf : findB l ⟨kt, ki⟩ with
 | false =>
   have hat : findAt l ⟨kt, ki⟩ = -1 := by unfold findAt; rw [find_none' hf]
   have he : refE bs l ⟨1, ⟨kt, ki⟩, ⟨tt, ti⟩, qv, qs, qn⟩ = 4 := by simp [refE, hf]
   rw [hat]
   have he' := Lib.hid he
   clear hat he hf
   go_enter Try.func44, Try.ntmps44
   go_wp2
   go_ret
   exact ⟨by rw [he'.out]; rfl, b0.out⟩
 | true =>
   obtain ⟨i, hi, _, _⟩ := rowK_of hf
   have hat : findAt l ⟨kt, ki⟩ = (i : Int) := by unfold findAt; rw [hi]
   have he : refE bs l ⟨1, ⟨kt, ki⟩, ⟨tt, ti⟩, qv, qs, qn⟩ = 0 := by simp [refE, hf]
   rw [hat]
   have he' := Lib.hid he
   have i0 : ¬ (i : Int) < 0 := by omega
   clear hat he hf hi
   go_enter Try.func44, Try.ntmps44
   go_wp2
   go_ret
   exact ⟨by rw [he'.out]; rfl, b0.out⟩
set_option maxHeartbeats 4000000 in
theorem ref_4 (kt ki tt ti qv : Int) (qs : ByteArray) (qn : Int) (tq : Option Addr) (tn tc : Nat) (bs : List BdD) (lq : Option Addr) (ln lc : Nat) (l : List RowD) (w : World) (h : SchOn w tq tn tc bs) (hr : RowsOn w lq ln lc l) (hc : chkList bs l = 0) (hrq : reqB bs ⟨4, ⟨kt, ki⟩, ⟨tt, ti⟩, qv, qs, qn⟩ = true) :
 Calls Try.prog 44 #[.agg #[.int .i64 4, .int .i64 kt, .int .u16 ki, .int .i64 tt, .int .u16 ti, .int .i64 qv, .string qs, .int .i64 qn], .agg #[.slice tq tn tc], .slice lq ln lc, .int .i64 (findAt l ⟨kt, ki⟩)] w (RfPost bs l ⟨4, ⟨kt, ki⟩, ⟨tt, ti⟩, qv, qs, qn⟩ w) := by
 have hkey := (key_of hrq (by simp)).1
 obtain ⟨W, hW⟩ : ∃ W, (w.alloc (.cells #[.int .i64 4, .int .i64 kt, .int .u16 ki, .int .i64 tt, .int .u16 ti, .int .i64 qv, .string qs, .int .i64 qn] 30)).alloc (.cells #[.slice tq tn tc] 24) = W := ⟨_, rfl⟩
 have hbx := Lib.hid (two_rowsI (xs := [.int .i64 4, .int .i64 kt, .int .u16 ki, .int .i64 tt, .int .u16 ti, .int .i64 qv, .string qs, .int .i64 qn]) (ys := [.slice tq tn tc]) hW)
 have b0 := Lib.hid hbx.out.1
 have q0 := Lib.hid hbx.out.2.1
 have s0 := Lib.hid hbx.out.2.2.1
 have y0 : W.cell? ⟨w.heap.size, 0, none⟩ = some (.int .i64 4) := q0.out.cell 0
 have hh := Lib.hid (h.below b0.out (Nat.le_refl _))
 have hrr := Lib.hid (hr.below b0.out (Nat.le_refl _))
 have hkey' := Lib.hid hkey
 have h60 := ((okL_good bs l).1 (chkList_zero hc).2).1
 have hll := hr.len
 have hm := Nat.le_trans hr.le hr.cap
 unfold maxLen at hm
 have hchk := Lib.hid hc
 unfold RfPost
 clear hbx hkey h hr hc
 cases hf : findB l ⟨kt, ki⟩ with
 | false =>
   have hat : findAt l ⟨kt, ki⟩ = -1 := by unfold findAt; rw [find_none' hf]
   have he : refE bs l ⟨4, ⟨kt, ki⟩, ⟨tt, ti⟩, qv, qs, qn⟩ = 4 := by simp [refE, hf]
   rw [hat]
   have he' := Lib.hid he
   clear hat he hf
   go_enter Try.func44, Try.ntmps44
   go_wp2
   go_ret
   exact ⟨by rw [he'.out]; rfl, b0.out⟩
 | true =>
   obtain ⟨i, hi, _, _⟩ := rowK_of hf
   have hat : findAt l ⟨kt, ki⟩ = (i : Int) := by unfold findAt; rw [hi]
   have he : refE bs l ⟨4, ⟨kt, ki⟩, ⟨tt, ti⟩, qv, qs, qn⟩ = 0 := by simp [refE, hf]
   rw [hat]
   have he' := Lib.hid he
   have i0 : ¬ (i : Int) < 0 := by omega
   clear hat he hf hi
   go_enter Try.func44, Try.ntmps44
   go_wp2
   go_ret
   exact ⟨by rw [he'.out]; rfl, b0.out⟩
set_option maxHeartbeats 4000000 in
theorem ref_5 (kt ki tt ti qv : Int) (qs : ByteArray) (qn : Int) (tq : Option Addr) (tn tc : Nat) (bs : List BdD) (lq : Option Addr) (ln lc : Nat) (l : List RowD) (w : World) (h : SchOn w tq tn tc bs) (hr : RowsOn w lq ln lc l) (hc : chkList bs l = 0) (hrq : reqB bs ⟨5, ⟨kt, ki⟩, ⟨tt, ti⟩, qv, qs, qn⟩ = true) :
 Calls Try.prog 44 #[.agg #[.int .i64 5, .int .i64 kt, .int .u16 ki, .int .i64 tt, .int .u16 ti, .int .i64 qv, .string qs, .int .i64 qn], .agg #[.slice tq tn tc], .slice lq ln lc, .int .i64 (findAt l ⟨kt, ki⟩)] w (RfPost bs l ⟨5, ⟨kt, ki⟩, ⟨tt, ti⟩, qv, qs, qn⟩ w) := by
 have hkey := (key_of hrq (by simp)).1
 obtain ⟨W, hW⟩ : ∃ W, (w.alloc (.cells #[.int .i64 5, .int .i64 kt, .int .u16 ki, .int .i64 tt, .int .u16 ti, .int .i64 qv, .string qs, .int .i64 qn] 30)).alloc (.cells #[.slice tq tn tc] 24) = W := ⟨_, rfl⟩
 have hbx := Lib.hid (two_rowsI (xs := [.int .i64 5, .int .i64 kt, .int .u16 ki, .int .i64 tt, .int .u16 ti, .int .i64 qv, .string qs, .int .i64 qn]) (ys := [.slice tq tn tc]) hW)
 have b0 := Lib.hid hbx.out.1
 have q0 := Lib.hid hbx.out.2.1
 have s0 := Lib.hid hbx.out.2.2.1
 have y0 : W.cell? ⟨w.heap.size, 0, none⟩ = some (.int .i64 5) := q0.out.cell 0
 have hh := Lib.hid (h.below b0.out (Nat.le_refl _))
 have hrr := Lib.hid (hr.below b0.out (Nat.le_refl _))
 have hkey' := Lib.hid hkey
 have h60 := ((okL_good bs l).1 (chkList_zero hc).2).1
 have hll := hr.len
 have hm := Nat.le_trans hr.le hr.cap
 unfold maxLen at hm
 have hchk := Lib.hid hc
 unfold RfPost
 clear hbx hkey h hr hc
 cases hf : findB l ⟨kt, ki⟩ with
 | false =>
   have hat : findAt l ⟨kt, ki⟩ = -1 := by unfold findAt; rw [find_none' hf]
   have he : refE bs l ⟨5, ⟨kt, ki⟩, ⟨tt, ti⟩, qv, qs, qn⟩ = 4 := by simp [refE, hf]
   rw [hat]
   have he' := Lib.hid he
   clear hat he hf
   go_enter Try.func44, Try.ntmps44
   go_wp2
   go_ret
   exact ⟨by rw [he'.out]; rfl, b0.out⟩
 | true =>
   obtain ⟨i, hi, _, _⟩ := rowK_of hf
   have hat : findAt l ⟨kt, ki⟩ = (i : Int) := by unfold findAt; rw [hi]
   have he : refE bs l ⟨5, ⟨kt, ki⟩, ⟨tt, ti⟩, qv, qs, qn⟩ = 0 := by simp [refE, hf]
   rw [hat]
   have he' := Lib.hid he
   have i0 : ¬ (i : Int) < 0 := by omega
   clear hat he hf hi
   go_enter Try.func44, Try.ntmps44
   go_wp2
   go_ret
   exact ⟨by rw [he'.out]; rfl, b0.out⟩
set_option maxHeartbeats 4000000 in
theorem ref_2 (kt ki tt ti qv : Int) (qs : ByteArray) (qn : Int) (tq : Option Addr) (tn tc : Nat) (bs : List BdD) (lq : Option Addr) (ln lc : Nat) (l : List RowD) (w : World) (h : SchOn w tq tn tc bs) (hr : RowsOn w lq ln lc l) (hc : chkList bs l = 0) (hrq : reqB bs ⟨2, ⟨kt, ki⟩, ⟨tt, ti⟩, qv, qs, qn⟩ = true) :
 Calls Try.prog 44 #[.agg #[.int .i64 2, .int .i64 kt, .int .u16 ki, .int .i64 tt, .int .u16 ti, .int .i64 qv, .string qs, .int .i64 qn], .agg #[.slice tq tn tc], .slice lq ln lc, .int .i64 (findAt l ⟨kt, ki⟩)] w (RfPost bs l ⟨2, ⟨kt, ki⟩, ⟨tt, ti⟩, qv, qs, qn⟩ w) := by
 have hkey := (key_of hrq (by simp)).1
 obtain ⟨W, hW⟩ : ∃ W, (w.alloc (.cells #[.int .i64 2, .int .i64 kt, .int .u16 ki, .int .i64 tt, .int .u16 ti, .int .i64 qv, .string qs, .int .i64 qn] 30)).alloc (.cells #[.slice tq tn tc] 24) = W := ⟨_, rfl⟩
 have hbx := Lib.hid (two_rowsI (xs := [.int .i64 2, .int .i64 kt, .int .u16 ki, .int .i64 tt, .int .u16 ti, .int .i64 qv, .string qs, .int .i64 qn]) (ys := [.slice tq tn tc]) hW)
 have b0 := Lib.hid hbx.out.1
 have q0 := Lib.hid hbx.out.2.1
 have s0 := Lib.hid hbx.out.2.2.1
 have y0 : W.cell? ⟨w.heap.size, 0, none⟩ = some (.int .i64 2) := q0.out.cell 0
 have hh := Lib.hid (h.below b0.out (Nat.le_refl _))
 have hrr := Lib.hid (hr.below b0.out (Nat.le_refl _))
 have hkey' := Lib.hid hkey
 have h60 := ((okL_good bs l).1 (chkList_zero hc).2).1
 have hll := hr.len
 have hm := Nat.le_trans hr.le hr.cap
 unfold maxLen at hm
 have hchk := Lib.hid hc
 unfold RfPost
 clear hbx hkey h hr hc
 have he : refE bs l ⟨2, ⟨kt, ki⟩, ⟨tt, ti⟩, qv, qs, qn⟩ = 0 := by simp [refE]
 have he' := Lib.hid he
 clear he
 go_enter Try.func44, Try.ntmps44
 go_wp2
 go_ret
 exact ⟨by rw [he'.out]; rfl, b0.out⟩
set_option maxHeartbeats 4000000 in
theorem ref_3 (kt ki tt ti qv : Int) (qs : ByteArray) (qn : Int) (tq : Option Addr) (tn tc : Nat) (bs : List BdD) (lq : Option Addr) (ln lc : Nat) (l : List RowD) (w : World) (h : SchOn w tq tn tc bs) (hr : RowsOn w lq ln lc l) (hc : chkList bs l = 0) (hrq : reqB bs ⟨3, ⟨kt, ki⟩, ⟨tt, ti⟩, qv, qs, qn⟩ = true) :
 Calls Try.prog 44 #[.agg #[.int .i64 3, .int .i64 kt, .int .u16 ki, .int .i64 tt, .int .u16 ti, .int .i64 qv, .string qs, .int .i64 qn], .agg #[.slice tq tn tc], .slice lq ln lc, .int .i64 (findAt l ⟨kt, ki⟩)] w (RfPost bs l ⟨3, ⟨kt, ki⟩, ⟨tt, ti⟩, qv, qs, qn⟩ w) := by
 have hkey := (key_of hrq (by simp)).1
 obtain ⟨W, hW⟩ : ∃ W, (w.alloc (.cells #[.int .i64 3, .int .i64 kt, .int .u16 ki, .int .i64 tt, .int .u16 ti, .int .i64 qv, .string qs, .int .i64 qn] 30)).alloc (.cells #[.slice tq tn tc] 24) = W := ⟨_, rfl⟩
 have hbx := Lib.hid (two_rowsI (xs := [.int .i64 3, .int .i64 kt, .int .u16 ki, .int .i64 tt, .int .u16 ti, .int .i64 qv, .string qs, .int .i64 qn]) (ys := [.slice tq tn tc]) hW)
 have b0 := Lib.hid hbx.out.1
 have q0 := Lib.hid hbx.out.2.1
 have s0 := Lib.hid hbx.out.2.2.1
 have y0 : W.cell? ⟨w.heap.size, 0, none⟩ = some (.int .i64 3) := q0.out.cell 0
 have hh := Lib.hid (h.below b0.out (Nat.le_refl _))
 have hrr := Lib.hid (hr.below b0.out (Nat.le_refl _))
 have hkey' := Lib.hid hkey
 have h60 := ((okL_good bs l).1 (chkList_zero hc).2).1
 have hll := hr.len
 have hm := Nat.le_trans hr.le hr.cap
 unfold maxLen at hm
 have hchk := Lib.hid hc
 unfold RfPost
 clear hbx hkey h hr hc
 have hft := Lib.hid (fits_any tq tn tc bs kt ki qv W hh.out hkey'.out)
 have y1 : W.cell? ⟨w.heap.size, 1, none⟩ = some (.int .i64 kt) := q0.out.cell 1
 have y2 : W.cell? ⟨w.heap.size, 2, none⟩ = some (.int .u16 ki) := q0.out.cell 2
 have y5 : W.cell? ⟨w.heap.size, 5, none⟩ = some (.int .i64 qv) := q0.out.cell 5
 have x0 : W.cell? ⟨w.heap.size + 1, 0, none⟩ = some (.slice tq tn tc) := s0.out.cell 0
 obtain ⟨AT, hAT⟩ : ∃ a, findAt l ⟨kt, ki⟩ = a := ⟨_, rfl⟩
 rw [hAT]
 have hAT' := Lib.hid hAT
 clear hAT
 go_enter Try.func44, Try.ntmps44
 go_wp2_with fail
 clear hW y0 y1 y2 y5 x0
 refine hft.out.mono ?_
 rintro e u1 ⟨rfl, hb⟩
 have b1 := Lib.hid (b0.out.trans (hb.mono b0.out.size))
 have y0 : u1.cell? ⟨w.heap.size, 0, none⟩ = some (.int .i64 3) := (q0.out.below hb).cell 0
 clear hb hft
 cases hb : fitB bs kt qv with
 | false =>
   have he' : Hid (refE bs l ⟨3, ⟨kt, ki⟩, ⟨tt, ti⟩, qv, qs, qn⟩ = 152) := by show _ = _; simp [refE, hb]
   clear hb
   go_wp2
   go_ret
   exact ⟨by rw [he'.out]; rfl, b1.out⟩
 | true =>
   cases hf : findB l ⟨kt, ki⟩ with
   | true =>
     obtain ⟨i, hi, _, _⟩ := rowK_of hf
     have hat : findAt l ⟨kt, ki⟩ = (i : Int) := by unfold findAt; rw [hi]
     have he' : Hid (refE bs l ⟨3, ⟨kt, ki⟩, ⟨tt, ti⟩, qv, qs, qn⟩ = 5) := by show _ = _; simp [refE, hb, hf]
     obtain rfl : AT = (i : Int) := hAT'.out.symm.trans hat
     have i0 : (0 : Int) ≤ i := by omega
     have i1 : ¬ (i : Int) < 0 := by omega
     clear hb hf hi hat hAT'
     go_wp2
     go_ret
     exact ⟨by rw [he'.out]; rfl, b1.out⟩
   | false =>
     have hat : findAt l ⟨kt, ki⟩ = -1 := by unfold findAt; rw [find_none' hf]
     obtain rfl : AT = -1 := hAT'.out.symm.trans hat
     by_cases h6 : 60 ≤ l.length
     · have he' : Hid (refE bs l ⟨3, ⟨kt, ki⟩, ⟨tt, ti⟩, qv, qs, qn⟩ = 6) := by show _ = _; simp [refE, hb, hf, h6]
       have n6 : (60 : Int) ≤ ln := by omega
       clear hb hf hat hAT'
       go_wp2
       go_ret
       exact ⟨by rw [he'.out]; rfl, b1.out⟩
     · have he' : Hid (refE bs l ⟨3, ⟨kt, ki⟩, ⟨tt, ti⟩, qv, qs, qn⟩ = 0) := by show _ = _; simp [refE, hb, hf, h6]
       have n6 : ¬ (60 : Int) ≤ ln := by omega
       clear hb hf hat hAT'
       go_wp2
       go_ret
       exact ⟨by rw [he'.out]; rfl, b1.out⟩
set_option maxHeartbeats 4000000 in
theorem ref_6 (kt ki tt ti qv : Int) (qs : ByteArray) (qn : Int) (tq : Option Addr) (tn tc : Nat) (bs : List BdD) (lq : Option Addr) (ln lc : Nat) (l : List RowD) (w : World) (h : SchOn w tq tn tc bs) (hr : RowsOn w lq ln lc l) (hc : chkList bs l = 0) (hrq : reqB bs ⟨6, ⟨kt, ki⟩, ⟨tt, ti⟩, qv, qs, qn⟩ = true) :
 Calls Try.prog 44 #[.agg #[.int .i64 6, .int .i64 kt, .int .u16 ki, .int .i64 tt, .int .u16 ti, .int .i64 qv, .string qs, .int .i64 qn], .agg #[.slice tq tn tc], .slice lq ln lc, .int .i64 (findAt l ⟨kt, ki⟩)] w (RfPost bs l ⟨6, ⟨kt, ki⟩, ⟨tt, ti⟩, qv, qs, qn⟩ w) := by
 have hkey := (key_of hrq (by simp)).1
 obtain ⟨W, hW⟩ : ∃ W, (w.alloc (.cells #[.int .i64 6, .int .i64 kt, .int .u16 ki, .int .i64 tt, .int .u16 ti, .int .i64 qv, .string qs, .int .i64 qn] 30)).alloc (.cells #[.slice tq tn tc] 24) = W := ⟨_, rfl⟩
 have hbx := Lib.hid (two_rowsI (xs := [.int .i64 6, .int .i64 kt, .int .u16 ki, .int .i64 tt, .int .u16 ti, .int .i64 qv, .string qs, .int .i64 qn]) (ys := [.slice tq tn tc]) hW)
 have b0 := Lib.hid hbx.out.1
 have q0 := Lib.hid hbx.out.2.1
 have s0 := Lib.hid hbx.out.2.2.1
 have y0 : W.cell? ⟨w.heap.size, 0, none⟩ = some (.int .i64 6) := q0.out.cell 0
 have hh := Lib.hid (h.below b0.out (Nat.le_refl _))
 have hrr := Lib.hid (hr.below b0.out (Nat.le_refl _))
 have hkey' := Lib.hid hkey
 have h60 := ((okL_good bs l).1 (chkList_zero hc).2).1
 have hll := hr.len
 have hm := Nat.le_trans hr.le hr.cap
 unfold maxLen at hm
 have hchk := Lib.hid hc
 unfold RfPost
 clear hbx hkey h hr hc
 have hft := Lib.hid (fits_any tq tn tc bs kt ki qv W hh.out hkey'.out)
 have y1 : W.cell? ⟨w.heap.size, 1, none⟩ = some (.int .i64 kt) := q0.out.cell 1
 have y2 : W.cell? ⟨w.heap.size, 2, none⟩ = some (.int .u16 ki) := q0.out.cell 2
 have y5 : W.cell? ⟨w.heap.size, 5, none⟩ = some (.int .i64 qv) := q0.out.cell 5
 have x0 : W.cell? ⟨w.heap.size + 1, 0, none⟩ = some (.slice tq tn tc) := s0.out.cell 0
 obtain ⟨AT, hAT⟩ : ∃ a, findAt l ⟨kt, ki⟩ = a := ⟨_, rfl⟩
 rw [hAT]
 have hAT' := Lib.hid hAT
 clear hAT
 go_enter Try.func44, Try.ntmps44
 go_wp2_with fail
 clear hW y0 y1 y2 y5 x0
 refine hft.out.mono ?_
 rintro e u1 ⟨rfl, hb⟩
 have b1 := Lib.hid (b0.out.trans (hb.mono b0.out.size))
 have y0 : u1.cell? ⟨w.heap.size, 0, none⟩ = some (.int .i64 6) := (q0.out.below hb).cell 0
 clear hb hft
 cases hb : fitB bs kt qv with
 | false =>
   have he' : Hid (refE bs l ⟨6, ⟨kt, ki⟩, ⟨tt, ti⟩, qv, qs, qn⟩ = 152) := by show _ = _; simp [refE, hb]
   clear hb
   go_wp2
   go_ret
   exact ⟨by rw [he'.out]; rfl, b1.out⟩
 | true =>
   cases hf : findB l ⟨kt, ki⟩ with
   | true =>
     obtain ⟨i, hi, _, _⟩ := rowK_of hf
     have hat : findAt l ⟨kt, ki⟩ = (i : Int) := by unfold findAt; rw [hi]
     have he' : Hid (refE bs l ⟨6, ⟨kt, ki⟩, ⟨tt, ti⟩, qv, qs, qn⟩ = 0) := by show _ = _; simp [refE, hb, hf]
     obtain rfl : AT = (i : Int) := hAT'.out.symm.trans hat
     have i0 : (0 : Int) ≤ i := by omega
     have i1 : ¬ (i : Int) < 0 := by omega
     clear hb hf hi hat hAT'
     go_wp2
     go_ret
     exact ⟨by rw [he'.out]; rfl, b1.out⟩
   | false =>
     have hat : findAt l ⟨kt, ki⟩ = -1 := by unfold findAt; rw [find_none' hf]
     obtain rfl : AT = -1 := hAT'.out.symm.trans hat
     have he' : Hid (refE bs l ⟨6, ⟨kt, ki⟩, ⟨tt, ti⟩, qv, qs, qn⟩ = 4) := by show _ = _; simp [refE, hb, hf]
     clear hb hf hat hAT'
     go_wp2
     go_ret
     exact ⟨by rw [he'.out]; rfl, b1.out⟩
set_option maxHeartbeats 4000000 in
theorem ref_7 (kt ki tt ti qv : Int) (qs : ByteArray) (qn : Int) (tq : Option Addr) (tn tc : Nat) (bs : List BdD) (lq : Option Addr) (ln lc : Nat) (l : List RowD) (w : World) (h : SchOn w tq tn tc bs) (hr : RowsOn w lq ln lc l) (hc : chkList bs l = 0) (hq : ReqOk ⟨7, ⟨kt, ki⟩, ⟨tt, ti⟩, qv, qs, qn⟩) (hrq : reqB bs ⟨7, ⟨kt, ki⟩, ⟨tt, ti⟩, qv, qs, qn⟩ = true) :
 Calls Try.prog 44 #[.agg #[.int .i64 7, .int .i64 kt, .int .u16 ki, .int .i64 tt, .int .u16 ti, .int .i64 qv, .string qs, .int .i64 qn], .agg #[.slice tq tn tc], .slice lq ln lc, .int .i64 (findAt l ⟨kt, ki⟩)] w (RfPost bs l ⟨7, ⟨kt, ki⟩, ⟨tt, ti⟩, qv, qs, qn⟩ w) := by
 have hkey := (key_of hrq (by simp)).1
 obtain ⟨W, hW⟩ : ∃ W, (w.alloc (.cells #[.int .i64 7, .int .i64 kt, .int .u16 ki, .int .i64 tt, .int .u16 ti, .int .i64 qv, .string qs, .int .i64 qn] 30)).alloc (.cells #[.slice tq tn tc] 24) = W := ⟨_, rfl⟩
 have hbx := Lib.hid (two_rowsI (xs := [.int .i64 7, .int .i64 kt, .int .u16 ki, .int .i64 tt, .int .u16 ti, .int .i64 qv, .string qs, .int .i64 qn]) (ys := [.slice tq tn tc]) hW)
 have b0 := Lib.hid hbx.out.1
 have q0 := Lib.hid hbx.out.2.1
 have s0 := Lib.hid hbx.out.2.2.1
 have y0 : W.cell? ⟨w.heap.size, 0, none⟩ = some (.int .i64 7) := q0.out.cell 0
 have hh := Lib.hid (h.below b0.out (Nat.le_refl _))
 have hrr := Lib.hid (hr.below b0.out (Nat.le_refl _))
 have hkey' := Lib.hid hkey
 have h60 := ((okL_good bs l).1 (chkList_zero hc).2).1
 have hll := hr.len
 have hm := Nat.le_trans hr.le hr.cap
 unfold maxLen at hm
 have hchk := Lib.hid hc
 unfold RfPost
 clear hbx hkey h hr hc
 have hqv := Lib.hid (show I64 qv from hq.val)
 cases hf : findB l ⟨kt, ki⟩ with
 | false =>
   have hat : findAt l ⟨kt, ki⟩ = -1 := by unfold findAt; rw [find_none' hf]
   have he : refE bs l ⟨7, ⟨kt, ki⟩, ⟨tt, ti⟩, qv, qs, qn⟩ = 4 := by simp [refE, hf]
   rw [hat]
   have he' := Lib.hid he
   clear hat he hf
   go_enter Try.func44, Try.ntmps44
   go_wp2
   go_ret
   exact ⟨by rw [he'.out]; rfl, b0.out⟩
 | true =>
   obtain ⟨i, hi, hdi, hki⟩ := rowK_of hf
   have hat : findAt l ⟨kt, ki⟩ = (i : Int) := by unfold findAt; rw [hi]
   rw [hat]
   have hpi := rowE_parts (row_ok hchk.out hdi)
   have hlt : i < ln := by have := (List.getElem?_eq_some_iff.1 hdi).1; omega
   obtain ⟨A, r_, rfl, hx_, ok_, hcc⟩ := hrr.out.at hlt
   rw [hdi] at hx_
   obtain rfl := Option.some.inj hx_
   obtain ⟨r_, hrw⟩ : ∃ r, rowK l ⟨kt, ki⟩ = r := ⟨_, rfl⟩
   obtain ⟨PB, hPB0⟩ : ∃ b, plusB bs (rowK l ⟨kt, ki⟩) qv = b := ⟨_, rfl⟩
   have he : refE bs l ⟨7, ⟨kt, ki⟩, ⟨tt, ti⟩, qv, qs, qn⟩ = if PB = true then 0 else 152 := by rw [← hPB0]; simp [refE, hf]
   rw [hrw] at hPB0 ok_ hcc hpi
   obtain ⟨⟨dt, di⟩, dv, ds⟩ := r_
   have hPB := Lib.hid hPB0
   have hc0 := Lib.hid hcc
   have he' := Lib.hid he
   have i0 : (0 : Int) ≤ i := by omega
   have i1 : (i : Int) < ln := by omega
   have i2 : ¬ (i : Int) < 0 := by omega
   have hpl : Hid (∀ u, Below W.heap.size W u → Calls Try.prog 48 #[.agg #[.slice tq tn tc], .agg #[.int .i64 dt, .int .u16 di, .int .i64 dv, .string ds], .int .i64 qv] u (fun e w' => e = .returned (.tuple #[.agg #[.int .i64 dt, .int .u16 di, .int .i64 (plusN dv qv), .string ds], .bool PB]) ∧ Below u.heap.size u w')) := by
    intro u hu
    have hpa := plusD_any tq tn tc bs dt di dv ds qv u (hh.out.below hu (Nat.le_refl _)) hpi.1 ok_.val hqv.out
    unfold PlPost at hpa
    rw [hPB.out] at hpa
    exact hpa
   clear hcc he hPB0 hrw hdi hki hi hf hat hpi ok_
   cases PB with
   | true =>
     go_enter Try.func44, Try.ntmps44
     go_wp2
     refine wp_region_held (S := fun u => Below W.heap.size W u) (by kernel_rfl) ?_
     change wpAnyH _ _ _ _ _ _ _ _ (World.drew W)
     have hz0 : Hid (Below W.heap.size W W.drew) := below_drew W
     refine held_tk (i := 0) (dst := some 50) (v := .agg #[.slice tq tn tc]) rfl rfl (.inl ⟨rfl, fun u hu => by have y0 : u.cell? ⟨w.heap.size + 1, 0, none⟩ = some (.slice tq tn tc) := (s0.out.below hu).cell 0; go_simp⟩) hz0.out ?_
     go_frame
     refine held_tk (i := 1) (dst := some 51) (v := .slice (some A) ln lc) rfl rfl (y_move (.tmp 2) rfl rfl rfl) hz0.out ?_
     go_frame
     refine held_tk (i := 2) (dst := some 52) (v := .int .i64 (i : Int)) rfl rfl (y_move (.tmp 3) rfl rfl rfl) hz0.out ?_
     go_frame
     refine held_tk (i := 3) (dst := some 53) (v := .pointer (some (A.add (i * 4)))) rfl rfl (.inl ⟨rfl, fun u _ => by go_simp⟩) hz0.out ?_
     go_frame
     refine held_tk (i := 4) (dst := some 54) (v := .agg #[.int .i64 dt, .int .u16 di, .int .i64 dv, .string ds]) rfl rfl (y_load_agg 68 (.tmp 53) rfl rfl rfl (fun u hu => run_loadVar_at Try.underlying68 rfl (sizeRow dt di dv ds) _ (fun j x hj => cell_keeps hu (Nat.le_refl _) (hc0.out j x hj)))) hz0.out ?_
     go_frame
     refine held_tk (i := 5) (dst := some 55) (v := .pointer (some ⟨w.heap.size, 5, none⟩)) rfl rfl (.inl ⟨rfl, fun u _ => by go_simp⟩) hz0.out ?_
     go_frame
     refine held_tk (i := 6) (dst := some 56) (v := .int .i64 qv) rfl rfl (.inl ⟨rfl, fun u hu => by have y0 : u.cell? ⟨w.heap.size, 5, none⟩ = some (.int .i64 qv) := (q0.out.below hu).cell 5; go_simp⟩) hz0.out ?_
     go_frame
     refine any_two (i := 7) (j := 11) (by kernel_rfl) ?_ ?_
     · refine call_op (dst := some 57) rfl rfl rfl (by go_simp) (hpl.out W.drew hz0.out) ?_
       rintro e z1 ⟨rfl, hb⟩
       have hz1 : Hid (Below W.heap.size W z1) := hz0.out.trans (hb.mono hz0.out.size)
       clear hb
       refine ⟨_, rfl, hz1.out, ?_⟩
       go_frame
       refine held_tk (i := 8) (dst := some 49) (v := .tuple #[.agg #[.int .i64 dt, .int .u16 di, .int .i64 (plusN dv qv), .string ds], .bool true]) rfl rfl (y_move (.tmp 57) rfl rfl rfl) hz1.out ?_
       go_frame
       refine held_tk (i := 9) (dst := some 58) (v := .agg #[.int .i64 dt, .int .u16 di, .int .i64 (plusN dv qv), .string ds]) rfl rfl (.inl ⟨rfl, fun u _ => by go_simp⟩) hz1.out ?_
       go_frame
       refine held_tk (i := 10) (dst := some 59) (v := .bool true) rfl rfl (.inl ⟨rfl, fun u _ => by go_simp⟩) hz1.out ?_
       go_frame
       obtain ⟨z2, huz2⟩ : ∃ z2, z1.alloc (.cells #[.int .i64 0, .int .u16 0, .int .i64 0, .string ⟨#[]⟩] 68) = z2 := ⟨_, rfl⟩
       have hbx2 := one_rowI (xs := [.int .i64 0, .int .u16 0, .int .i64 0, .string ⟨#[]⟩]) huz2
       have hz2 : Hid (Below W.heap.size W z2) := hz1.out.trans (hbx2.1.mono hz1.out.size)
       have halz : Hid (W.heap.size ≤ z1.heap.size) := hz1.out.size
       refine held_value (i := 11) (dst := some 9) (w' := z2) (v := .pointer (some ⟨z1.heap.size, 0, none⟩)) rfl rfl (by kernel_rfl) rfl (by rw [← huz2]; go_simp) hz2.out ?_
       go_frame
       clear huz2
       obtain ⟨z9, hst, h9, hg9⟩ := run_storeVar_at (P := Try.prog) (ty := 68) (o := 0) (vs := [.int .i64 dt, .int .u16 di, .int .i64 (plusN dv qv), .string ds]) hbx2.2.1 (sizeRow _ _ _ _) (Nat.le_refl _) (RowD.one ⟨⟨dt, di⟩, plusN dv qv, ds⟩)
       have hz9 : Hid (Below W.heap.size W z9) := hz2.out.grown hg9 hz2.out.size (fun k hk => by cases hk; exact halz.out)
       refine held_skip (i := 12) (dst := none) (w' := z9) rfl rfl (by kernel_rfl) rfl (run_store_op rfl rfl rfl hst) hz9.out ?_
       go_frame
       refine held_tk (i := 13) (dst := some 10) (v := .bool true) rfl rfl (.inl ⟨rfl, fun u _ => by go_simp⟩) hz9.out ?_
       go_frame
       refine wpAnyH_done (by kernel_rfl) ?_ _
       clear hst h9 hg9 hz0
       have y9 : z9.cell? ⟨w.heap.size, 0, none⟩ = some (.int .i64 7) := (q0.out.below hz9.out).cell 0
       go_wp2
       go_ret
       exact ⟨by rw [he'.out]; rfl, b0.out.trans (hz9.out.mono b0.out.size)⟩
     · obtain ⟨z1, huz1⟩ : ∃ z1, W.drew.alloc (.cells #[.int .i64 0, .int .u16 0, .int .i64 0, .string ⟨#[]⟩] 68) = z1 := ⟨_, rfl⟩
       have hbx2 := one_rowI (xs := [.int .i64 0, .int .u16 0, .int .i64 0, .string ⟨#[]⟩]) huz1
       have hz1 : Hid (Below W.heap.size W z1) := hz0.out.trans (hbx2.1.mono hz0.out.size)
       have halz : Hid (W.heap.size ≤ W.drew.heap.size) := hz0.out.size
       refine value_op (dst := some 9) (w' := z1) (v := .pointer (some ⟨W.drew.heap.size, 0, none⟩)) rfl rfl rfl (by rw [← huz1]; go_simp) ⟨hz1.out, ?_⟩
       go_frame
       clear huz1
       refine held_call (i := 7) (dst := some 57) rfl rfl (by kernel_rfl) rfl (by go_simp) (hpl.out z1 hz1.out) ?_
       rintro e z2 ⟨rfl, hb⟩
       have hz2 : Hid (Below W.heap.size W z2) := hz1.out.trans (hb.mono hz1.out.size)
       have hzr := hbx2.2.1.below hb
       clear hb hbx2
       refine ⟨_, rfl, hz2.out, ?_⟩
       go_frame
       refine held_tk (i := 8) (dst := some 49) (v := .tuple #[.agg #[.int .i64 dt, .int .u16 di, .int .i64 (plusN dv qv), .string ds], .bool true]) rfl rfl (y_move (.tmp 57) rfl rfl rfl) hz2.out ?_
       go_frame
       refine held_tk (i := 9) (dst := some 58) (v := .agg #[.int .i64 dt, .int .u16 di, .int .i64 (plusN dv qv), .string ds]) rfl rfl (.inl ⟨rfl, fun u _ => by go_simp⟩) hz2.out ?_
       go_frame
       refine held_tk (i := 10) (dst := some 59) (v := .bool true) rfl rfl (.inl ⟨rfl, fun u _ => by go_simp⟩) hz2.out ?_
       go_frame
       obtain ⟨z9, hst, h9, hg9⟩ := run_storeVar_at (P := Try.prog) (ty := 68) (o := 0) (vs := [.int .i64 dt, .int .u16 di, .int .i64 (plusN dv qv), .string ds]) hzr (sizeRow _ _ _ _) (Nat.le_refl _) (RowD.one ⟨⟨dt, di⟩, plusN dv qv, ds⟩)
       have hz9 : Hid (Below W.heap.size W z9) := hz2.out.grown hg9 hz2.out.size (fun k hk => by cases hk; exact halz.out)
       refine held_skip (i := 12) (dst := none) (w' := z9) rfl rfl (by kernel_rfl) rfl (run_store_op rfl rfl rfl hst) hz9.out ?_
       go_frame
       refine held_tk (i := 13) (dst := some 10) (v := .bool true) rfl rfl (.inl ⟨rfl, fun u _ => by go_simp⟩) hz9.out ?_
       go_frame
       refine wpAnyH_done (by kernel_rfl) ?_ _
       clear hst h9 hg9 hz0
       have y9 : z9.cell? ⟨w.heap.size, 0, none⟩ = some (.int .i64 7) := (q0.out.below hz9.out).cell 0
       go_wp2
       go_ret
       exact ⟨by rw [he'.out]; rfl, b0.out.trans (hz9.out.mono b0.out.size)⟩
   | false =>
     go_enter Try.func44, Try.ntmps44
     go_wp2
     refine wp_region_held (S := fun u => Below W.heap.size W u) (by kernel_rfl) ?_
     change wpAnyH _ _ _ _ _ _ _ _ (World.drew W)
     have hz0 : Hid (Below W.heap.size W W.drew) := below_drew W
     refine held_tk (i := 0) (dst := some 50) (v := .agg #[.slice tq tn tc]) rfl rfl (.inl ⟨rfl, fun u hu => by have y0 : u.cell? ⟨w.heap.size + 1, 0, none⟩ = some (.slice tq tn tc) := (s0.out.below hu).cell 0; go_simp⟩) hz0.out ?_
     go_frame
     refine held_tk (i := 1) (dst := some 51) (v := .slice (some A) ln lc) rfl rfl (y_move (.tmp 2) rfl rfl rfl) hz0.out ?_
     go_frame
     refine held_tk (i := 2) (dst := some 52) (v := .int .i64 (i : Int)) rfl rfl (y_move (.tmp 3) rfl rfl rfl) hz0.out ?_
     go_frame
     refine held_tk (i := 3) (dst := some 53) (v := .pointer (some (A.add (i * 4)))) rfl rfl (.inl ⟨rfl, fun u _ => by go_simp⟩) hz0.out ?_
     go_frame
     refine held_tk (i := 4) (dst := some 54) (v := .agg #[.int .i64 dt, .int .u16 di, .int .i64 dv, .string ds]) rfl rfl (y_load_agg 68 (.tmp 53) rfl rfl rfl (fun u hu => run_loadVar_at Try.underlying68 rfl (sizeRow dt di dv ds) _ (fun j x hj => cell_keeps hu (Nat.le_refl _) (hc0.out j x hj)))) hz0.out ?_
     go_frame
     refine held_tk (i := 5) (dst := some 55) (v := .pointer (some ⟨w.heap.size, 5, none⟩)) rfl rfl (.inl ⟨rfl, fun u _ => by go_simp⟩) hz0.out ?_
     go_frame
     refine held_tk (i := 6) (dst := some 56) (v := .int .i64 qv) rfl rfl (.inl ⟨rfl, fun u hu => by have y0 : u.cell? ⟨w.heap.size, 5, none⟩ = some (.int .i64 qv) := (q0.out.below hu).cell 5; go_simp⟩) hz0.out ?_
     go_frame
     refine any_two (i := 7) (j := 11) (by kernel_rfl) ?_ ?_
     · refine call_op (dst := some 57) rfl rfl rfl (by go_simp) (hpl.out W.drew hz0.out) ?_
       rintro e z1 ⟨rfl, hb⟩
       have hz1 : Hid (Below W.heap.size W z1) := hz0.out.trans (hb.mono hz0.out.size)
       clear hb
       refine ⟨_, rfl, hz1.out, ?_⟩
       go_frame
       refine held_tk (i := 8) (dst := some 49) (v := .tuple #[.agg #[.int .i64 dt, .int .u16 di, .int .i64 (plusN dv qv), .string ds], .bool false]) rfl rfl (y_move (.tmp 57) rfl rfl rfl) hz1.out ?_
       go_frame
       refine held_tk (i := 9) (dst := some 58) (v := .agg #[.int .i64 dt, .int .u16 di, .int .i64 (plusN dv qv), .string ds]) rfl rfl (.inl ⟨rfl, fun u _ => by go_simp⟩) hz1.out ?_
       go_frame
       refine held_tk (i := 10) (dst := some 59) (v := .bool false) rfl rfl (.inl ⟨rfl, fun u _ => by go_simp⟩) hz1.out ?_
       go_frame
       obtain ⟨z2, huz2⟩ : ∃ z2, z1.alloc (.cells #[.int .i64 0, .int .u16 0, .int .i64 0, .string ⟨#[]⟩] 68) = z2 := ⟨_, rfl⟩
       have hbx2 := one_rowI (xs := [.int .i64 0, .int .u16 0, .int .i64 0, .string ⟨#[]⟩]) huz2
       have hz2 : Hid (Below W.heap.size W z2) := hz1.out.trans (hbx2.1.mono hz1.out.size)
       have halz : Hid (W.heap.size ≤ z1.heap.size) := hz1.out.size
       refine held_value (i := 11) (dst := some 9) (w' := z2) (v := .pointer (some ⟨z1.heap.size, 0, none⟩)) rfl rfl (by kernel_rfl) rfl (by rw [← huz2]; go_simp) hz2.out ?_
       go_frame
       clear huz2
       obtain ⟨z9, hst, h9, hg9⟩ := run_storeVar_at (P := Try.prog) (ty := 68) (o := 0) (vs := [.int .i64 dt, .int .u16 di, .int .i64 (plusN dv qv), .string ds]) hbx2.2.1 (sizeRow _ _ _ _) (Nat.le_refl _) (RowD.one ⟨⟨dt, di⟩, plusN dv qv, ds⟩)
       have hz9 : Hid (Below W.heap.size W z9) := hz2.out.grown hg9 hz2.out.size (fun k hk => by cases hk; exact halz.out)
       refine held_skip (i := 12) (dst := none) (w' := z9) rfl rfl (by kernel_rfl) rfl (run_store_op rfl rfl rfl hst) hz9.out ?_
       go_frame
       refine held_tk (i := 13) (dst := some 10) (v := .bool false) rfl rfl (.inl ⟨rfl, fun u _ => by go_simp⟩) hz9.out ?_
       go_frame
       refine wpAnyH_done (by kernel_rfl) ?_ _
       clear hst h9 hg9 hz0
       have y9 : z9.cell? ⟨w.heap.size, 0, none⟩ = some (.int .i64 7) := (q0.out.below hz9.out).cell 0
       go_wp2
       go_ret
       exact ⟨by rw [he'.out]; rfl, b0.out.trans (hz9.out.mono b0.out.size)⟩
     · obtain ⟨z1, huz1⟩ : ∃ z1, W.drew.alloc (.cells #[.int .i64 0, .int .u16 0, .int .i64 0, .string ⟨#[]⟩] 68) = z1 := ⟨_, rfl⟩
       have hbx2 := one_rowI (xs := [.int .i64 0, .int .u16 0, .int .i64 0, .string ⟨#[]⟩]) huz1
       have hz1 : Hid (Below W.heap.size W z1) := hz0.out.trans (hbx2.1.mono hz0.out.size)
       have halz : Hid (W.heap.size ≤ W.drew.heap.size) := hz0.out.size
       refine value_op (dst := some 9) (w' := z1) (v := .pointer (some ⟨W.drew.heap.size, 0, none⟩)) rfl rfl rfl (by rw [← huz1]; go_simp) ⟨hz1.out, ?_⟩
       go_frame
       clear huz1
       refine held_call (i := 7) (dst := some 57) rfl rfl (by kernel_rfl) rfl (by go_simp) (hpl.out z1 hz1.out) ?_
       rintro e z2 ⟨rfl, hb⟩
       have hz2 : Hid (Below W.heap.size W z2) := hz1.out.trans (hb.mono hz1.out.size)
       have hzr := hbx2.2.1.below hb
       clear hb hbx2
       refine ⟨_, rfl, hz2.out, ?_⟩
       go_frame
       refine held_tk (i := 8) (dst := some 49) (v := .tuple #[.agg #[.int .i64 dt, .int .u16 di, .int .i64 (plusN dv qv), .string ds], .bool false]) rfl rfl (y_move (.tmp 57) rfl rfl rfl) hz2.out ?_
       go_frame
       refine held_tk (i := 9) (dst := some 58) (v := .agg #[.int .i64 dt, .int .u16 di, .int .i64 (plusN dv qv), .string ds]) rfl rfl (.inl ⟨rfl, fun u _ => by go_simp⟩) hz2.out ?_
       go_frame
       refine held_tk (i := 10) (dst := some 59) (v := .bool false) rfl rfl (.inl ⟨rfl, fun u _ => by go_simp⟩) hz2.out ?_
       go_frame
       obtain ⟨z9, hst, h9, hg9⟩ := run_storeVar_at (P := Try.prog) (ty := 68) (o := 0) (vs := [.int .i64 dt, .int .u16 di, .int .i64 (plusN dv qv), .string ds]) hzr (sizeRow _ _ _ _) (Nat.le_refl _) (RowD.one ⟨⟨dt, di⟩, plusN dv qv, ds⟩)
       have hz9 : Hid (Below W.heap.size W z9) := hz2.out.grown hg9 hz2.out.size (fun k hk => by cases hk; exact halz.out)
       refine held_skip (i := 12) (dst := none) (w' := z9) rfl rfl (by kernel_rfl) rfl (run_store_op rfl rfl rfl hst) hz9.out ?_
       go_frame
       refine held_tk (i := 13) (dst := some 10) (v := .bool false) rfl rfl (.inl ⟨rfl, fun u _ => by go_simp⟩) hz9.out ?_
       go_frame
       refine wpAnyH_done (by kernel_rfl) ?_ _
       clear hst h9 hg9 hz0
       have y9 : z9.cell? ⟨w.heap.size, 0, none⟩ = some (.int .i64 7) := (q0.out.below hz9.out).cell 0
       go_wp2
       go_ret
       exact ⟨by rw [he'.out]; rfl, b0.out.trans (hz9.out.mono b0.out.size)⟩
set_option maxHeartbeats 4000000 in
theorem ref_8 (kt ki tt ti qv : Int) (qs : ByteArray) (qn : Int) (tq : Option Addr) (tn tc : Nat) (bs : List BdD) (lq : Option Addr) (ln lc : Nat) (l : List RowD) (w : World) (h : SchOn w tq tn tc bs) (hr : RowsOn w lq ln lc l) (hc : chkList bs l = 0) (hq : ReqOk ⟨8, ⟨kt, ki⟩, ⟨tt, ti⟩, qv, qs, qn⟩) (hrq : reqB bs ⟨8, ⟨kt, ki⟩, ⟨tt, ti⟩, qv, qs, qn⟩ = true) :
 Calls Try.prog 44 #[.agg #[.int .i64 8, .int .i64 kt, .int .u16 ki, .int .i64 tt, .int .u16 ti, .int .i64 qv, .string qs, .int .i64 qn], .agg #[.slice tq tn tc], .slice lq ln lc, .int .i64 (findAt l ⟨kt, ki⟩)] w (RfPost bs l ⟨8, ⟨kt, ki⟩, ⟨tt, ti⟩, qv, qs, qn⟩ w) := by
 have hkey := (key_of hrq (by simp)).1
 obtain ⟨W, hW⟩ : ∃ W, (w.alloc (.cells #[.int .i64 8, .int .i64 kt, .int .u16 ki, .int .i64 tt, .int .u16 ti, .int .i64 qv, .string qs, .int .i64 qn] 30)).alloc (.cells #[.slice tq tn tc] 24) = W := ⟨_, rfl⟩
 have hbx := Lib.hid (two_rowsI (xs := [.int .i64 8, .int .i64 kt, .int .u16 ki, .int .i64 tt, .int .u16 ti, .int .i64 qv, .string qs, .int .i64 qn]) (ys := [.slice tq tn tc]) hW)
 have b0 := Lib.hid hbx.out.1
 have q0 := Lib.hid hbx.out.2.1
 have s0 := Lib.hid hbx.out.2.2.1
 have y0 : W.cell? ⟨w.heap.size, 0, none⟩ = some (.int .i64 8) := q0.out.cell 0
 have hh := Lib.hid (h.below b0.out (Nat.le_refl _))
 have hrr := Lib.hid (hr.below b0.out (Nat.le_refl _))
 have hkey' := Lib.hid hkey
 have h60 := ((okL_good bs l).1 (chkList_zero hc).2).1
 have hll := hr.len
 have hm := Nat.le_trans hr.le hr.cap
 unfold maxLen at hm
 have hchk := Lib.hid hc
 unfold RfPost
 clear hbx hkey h hr hc
 have hqv := Lib.hid (show I64 qv from hq.val)
 have hq0 : 0 ≤ qv := reqB_move hrq rfl
 have hqn : Hid (I64 (-qv)) := by have h1 := hqv.out; show I64 _; unfold I64 at h1 ⊢; omega
 have hneg : Hid ((IntKind.i64.wrap (0 - qv) : Int) = -qv) := by have h1 := hqv.out; unfold I64 at h1; exact neg_int qv ⟨hq0, by omega⟩
 have hneg2 : Hid ((IntKind.i64.wrap (-qv) : Int) = -qv) := by have h1 := hqv.out; unfold I64 at h1; exact neg_int' qv ⟨hq0, by omega⟩
 clear hq0
 cases hf : findB l ⟨kt, ki⟩ with
 | false =>
   have hat : findAt l ⟨kt, ki⟩ = -1 := by unfold findAt; rw [find_none' hf]
   have he : refE bs l ⟨8, ⟨kt, ki⟩, ⟨tt, ti⟩, qv, qs, qn⟩ = 4 := by simp [refE, hf]
   rw [hat]
   have he' := Lib.hid he
   clear hat he hf
   go_enter Try.func44, Try.ntmps44
   go_wp2
   go_ret
   exact ⟨by rw [he'.out]; rfl, b0.out⟩
 | true =>
   obtain ⟨i, hi, hdi, hki⟩ := rowK_of hf
   have hat : findAt l ⟨kt, ki⟩ = (i : Int) := by unfold findAt; rw [hi]
   rw [hat]
   have hpi := rowE_parts (row_ok hchk.out hdi)
   have hlt : i < ln := by have := (List.getElem?_eq_some_iff.1 hdi).1; omega
   obtain ⟨A, r_, rfl, hx_, ok_, hcc⟩ := hrr.out.at hlt
   rw [hdi] at hx_
   obtain rfl := Option.some.inj hx_
   have i0 : (0 : Int) ≤ i := by omega
   have i1 : (i : Int) < ln := by omega
   have i2 : ¬ (i : Int) < 0 := by omega
   have y3 : W.cell? ⟨w.heap.size, 3, none⟩ = some (.int .i64 tt) := q0.out.cell 3
   have y4 : W.cell? ⟨w.heap.size, 4, none⟩ = some (.int .u16 ti) := q0.out.cell 4
   have hfd := Lib.hid (refFind_any (some A) ln lc l tt ti W hrr.out (by omega))
   obtain ⟨r_, hrw⟩ : ∃ r, rowK l ⟨kt, ki⟩ = r := ⟨_, rfl⟩
   rw [hrw] at ok_ hcc hpi
   have hrw' := Lib.hid hrw
   have hf' := Lib.hid hf
   obtain ⟨⟨dt, di⟩, dv, ds⟩ := r_
   have hc0 := Lib.hid hcc
   have hpi' := Lib.hid hpi
   have ok' := Lib.hid ok_
   clear hcc hrw hdi hki hi hf hat hpi ok_
   go_enter Try.func44, Try.ntmps44
   go_wp2_with fail
   clear hW y0 y3 y4
   refine hfd.out.mono ?_
   rintro e u1 ⟨rfl, hb⟩
   have b1 := Lib.hid (b0.out.trans (hb.mono b0.out.size))
   have q1 := Lib.hid (q0.out.below hb)
   have s1 := Lib.hid (s0.out.below hb)
   have h1 := Lib.hid (hh.out.below hb (Nat.le_refl _))
   have rr1 := Lib.hid (hrr.out.below hb (Nat.le_refl _))
   have hc1 : Hid (∀ j x, (⟨⟨dt, di⟩, dv, ds⟩ : RowD).cells[j]? = some x → u1.cell? ((A.add (i * 4)).add j) = some x) := fun j x hj => cell_keeps hb (Nat.le_refl _) (hc0.out j x hj)
   clear hb hfd hrr hh q0 s0 b0 hc0
   cases hg : findB l ⟨tt, ti⟩ with
   | false =>
     have hat : findAt l ⟨tt, ti⟩ = -1 := by unfold findAt; rw [find_none' hg]
     have he' : Hid (refE bs l ⟨8, ⟨kt, ki⟩, ⟨tt, ti⟩, qv, qs, qn⟩ = 4) := by show _ = _; simp [refE, hf'.out, hg]
     rw [hat]
     clear hat hg
     go_wp2
     go_ret
     exact ⟨by rw [he'.out]; rfl, b1.out⟩
   | true =>
     obtain ⟨k, hk, hdk, hkk⟩ := rowK_of hg
     have hat : findAt l ⟨tt, ti⟩ = (k : Int) := by unfold findAt; rw [hk]
     rw [hat]
     have hpk := rowE_parts (row_ok hchk.out hdk)
     have hlt2 : k < ln := by have := (List.getElem?_eq_some_iff.1 hdk).1; omega
     obtain ⟨A2, r_, hqA, hx_, ok_, hcc⟩ := rr1.out.at hlt2
     rw [hdk] at hx_
     obtain rfl := Option.some.inj hx_
     obtain rfl : A = A2 := by injection hqA
     have k0 : (0 : Int) ≤ k := by omega
     have k1 : (k : Int) < ln := by omega
     have k2 : ¬ (k : Int) < 0 := by omega
     obtain ⟨PB, hPB0⟩ : ∃ b, plusB bs (rowK l ⟨kt, ki⟩) (-qv) = b := ⟨_, rfl⟩
     obtain ⟨PC, hPC0⟩ : ∃ b, plusB bs (rowK l ⟨tt, ti⟩) qv = b := ⟨_, rfl⟩
     have he : refE bs l ⟨8, ⟨kt, ki⟩, ⟨tt, ti⟩, qv, qs, qn⟩ = if (PB && PC) = true then 0 else 152 := by rw [← hPB0, ← hPC0]; simp [refE, hf'.out, hg]
     obtain ⟨r_, hrw⟩ : ∃ r, rowK l ⟨tt, ti⟩ = r := ⟨_, rfl⟩
     rw [hrw] at ok_ hcc hpk hPC0
     rw [hrw'.out] at hPB0
     obtain ⟨⟨ct, cid⟩, cv, cs⟩ := r_
     have hd1 := Lib.hid hcc
     have hPB := Lib.hid hPB0
     have hPC := Lib.hid hPC0
     have he' := Lib.hid he
     have hpl : Hid (∀ u, Below u1.heap.size u1 u → Calls Try.prog 48 #[.agg #[.slice tq tn tc], .agg #[.int .i64 dt, .int .u16 di, .int .i64 dv, .string ds], .int .i64 (-qv)] u (fun e w' => e = .returned (.tuple #[.agg #[.int .i64 dt, .int .u16 di, .int .i64 (plusN dv (-qv)), .string ds], .bool PB]) ∧ Below u.heap.size u w')) := by
      intro u hu
      have hpa := plusD_any tq tn tc bs dt di dv ds (-qv) u (h1.out.below hu (Nat.le_refl _)) hpi'.out.1 ok'.out.val hqn.out
      unfold PlPost at hpa
      rw [hPB.out] at hpa
      exact hpa
     have hpl2' : Hid (∀ u, Below u1.heap.size u1 u → Calls Try.prog 48 #[.agg #[.slice tq tn tc], .agg #[.int .i64 ct, .int .u16 cid, .int .i64 cv, .string cs], .int .i64 qv] u (fun e w' => e = .returned (.tuple #[.agg #[.int .i64 ct, .int .u16 cid, .int .i64 (plusN cv qv), .string cs], .bool PC]) ∧ Below u.heap.size u w')) := by
      intro u hu
      have hpa := plusD_any tq tn tc bs ct cid cv cs qv u (h1.out.below hu (Nat.le_refl _)) hpk.1 ok_.val hqv.out
      unfold PlPost at hpa
      rw [hPC.out] at hpa
      exact hpa
     clear hcc he hPB0 hPC0 hrw hdk hkk hk hg hat hpk ok_ hqA rr1 h1
     cases PB with
     | true =>
       cases PC with
       | true =>
         go_wp2
         refine wp_region_held (S := fun u => Below u1.heap.size u1 u) (by kernel_rfl) ?_
         change wpAnyH _ _ _ _ _ _ _ _ (World.drew u1)
         have hz0 : Hid (Below u1.heap.size u1 u1.drew) := below_drew u1
         refine held_tk (i := 0) (dst := some 72) (v := .agg #[.slice tq tn tc]) rfl rfl (.inl ⟨rfl, fun u hu => by have y0 : u.cell? ⟨w.heap.size + 1, 0, none⟩ = some (.slice tq tn tc) := (s1.out.below hu).cell 0; go_simp⟩) hz0.out ?_
         go_frame
         refine held_tk (i := 1) (dst := some 73) (v := .slice (some A) ln lc) rfl rfl (y_move (.tmp 2) rfl rfl rfl) hz0.out ?_
         go_frame
         refine held_tk (i := 2) (dst := some 74) (v := .int .i64 (i : Int)) rfl rfl (y_move (.tmp 3) rfl rfl rfl) hz0.out ?_
         go_frame
         refine held_tk (i := 3) (dst := some 75) (v := .pointer (some (A.add (i * 4)))) rfl rfl (.inl ⟨rfl, fun u _ => by go_simp⟩) hz0.out ?_
         go_frame
         refine held_tk (i := 4) (dst := some 76) (v := .agg #[.int .i64 dt, .int .u16 di, .int .i64 dv, .string ds]) rfl rfl (y_load_agg 68 (.tmp 75) rfl rfl rfl (fun u hu => run_loadVar_at Try.underlying68 rfl (sizeRow dt di dv ds) _ (fun j x hj => cell_keeps hu (Nat.le_refl _) (hc1.out j x hj)))) hz0.out ?_
         go_frame
         refine held_tk (i := 5) (dst := some 77) (v := .pointer (some ⟨w.heap.size, 5, none⟩)) rfl rfl (.inl ⟨rfl, fun u _ => by go_simp⟩) hz0.out ?_
         go_frame
         refine held_tk (i := 6) (dst := some 78) (v := .int .i64 qv) rfl rfl (.inl ⟨rfl, fun u hu => by have y0 : u.cell? ⟨w.heap.size, 5, none⟩ = some (.int .i64 qv) := (q1.out.below hu).cell 5; go_simp⟩) hz0.out ?_
         go_frame
         refine held_tk (i := 7) (dst := some 79) (v := .int .i64 (-qv)) rfl rfl (.inl ⟨rfl, fun u _ => by have hw := hneg.out; have hw2 := hneg2.out; first | (go_simp; done) | (go_simp; rw [hw]; done) | (go_simp; rw [hw2]; done)⟩) hz0.out ?_
         go_frame
         refine any_two (i := 8) (j := 12) (by kernel_rfl) ?_ ?_
         · refine call_op (dst := some 80) rfl rfl rfl (by go_simp) (hpl.out u1.drew hz0.out) ?_
           rintro e z1 ⟨rfl, hb⟩
           have hz1 : Hid (Below u1.heap.size u1 z1) := hz0.out.trans (hb.mono hz0.out.size)
           clear hb
           refine ⟨_, rfl, hz1.out, ?_⟩
           go_frame
           refine held_tk (i := 9) (dst := some 71) (v := .tuple #[.agg #[.int .i64 dt, .int .u16 di, .int .i64 (plusN dv (-qv)), .string ds], .bool true]) rfl rfl (y_move (.tmp 80) rfl rfl rfl) hz1.out ?_
           go_frame
           refine held_tk (i := 10) (dst := some 81) (v := .agg #[.int .i64 dt, .int .u16 di, .int .i64 (plusN dv (-qv)), .string ds]) rfl rfl (.inl ⟨rfl, fun u _ => by go_simp⟩) hz1.out ?_
           go_frame
           refine held_tk (i := 11) (dst := some 82) (v := .bool true) rfl rfl (.inl ⟨rfl, fun u _ => by go_simp⟩) hz1.out ?_
           go_frame
           obtain ⟨z2, huz2⟩ : ∃ z2, z1.alloc (.cells #[.int .i64 0, .int .u16 0, .int .i64 0, .string ⟨#[]⟩] 68) = z2 := ⟨_, rfl⟩
           have hbx2 := one_rowI (xs := [.int .i64 0, .int .u16 0, .int .i64 0, .string ⟨#[]⟩]) huz2
           have hz2 : Hid (Below u1.heap.size u1 z2) := hz1.out.trans (hbx2.1.mono hz1.out.size)
           have halz : Hid (u1.heap.size ≤ z1.heap.size) := hz1.out.size
           refine held_value (i := 12) (dst := some 12) (w' := z2) (v := .pointer (some ⟨z1.heap.size, 0, none⟩)) rfl rfl (by kernel_rfl) rfl (by rw [← huz2]; go_simp) hz2.out ?_
           go_frame
           clear huz2
           obtain ⟨z9, hst, h9, hg9⟩ := run_storeVar_at (P := Try.prog) (ty := 68) (o := 0) (vs := [.int .i64 dt, .int .u16 di, .int .i64 (plusN dv (-qv)), .string ds]) hbx2.2.1 (sizeRow _ _ _ _) (Nat.le_refl _) (RowD.one ⟨⟨dt, di⟩, plusN dv (-qv), ds⟩)
           have hz9 : Hid (Below u1.heap.size u1 z9) := hz2.out.grown hg9 hz2.out.size (fun k hk => by cases hk; exact halz.out)
           refine held_skip (i := 13) (dst := none) (w' := z9) rfl rfl (by kernel_rfl) rfl (run_store_op rfl rfl rfl hst) hz9.out ?_
           go_frame
           refine held_tk (i := 14) (dst := some 13) (v := .bool true) rfl rfl (.inl ⟨rfl, fun u _ => by go_simp⟩) hz9.out ?_
           go_frame
           refine wpAnyH_done (by kernel_rfl) ?_ _
           clear hst h9 hg9 hz0
           have hB9 := Lib.hid hz9.out
           have q2 := Lib.hid (q1.out.below hz9.out)
           have s2 := Lib.hid (s1.out.below hz9.out)
           have b2 := Lib.hid (b1.out.trans (hz9.out.mono b1.out.size))
           have hc2 : Hid (∀ j x, (⟨⟨ct, cid⟩, cv, cs⟩ : RowD).cells[j]? = some x → z9.cell? ((A.add (k * 4)).add j) = some x) := fun j x hj => cell_keeps hz9.out (Nat.le_refl _) (hd1.out j x hj)
           have hpl2 : Hid (∀ u, Below z9.heap.size z9 u → Calls Try.prog 48 #[.agg #[.slice tq tn tc], .agg #[.int .i64 ct, .int .u16 cid, .int .i64 cv, .string cs], .int .i64 qv] u (fun e w' => e = .returned (.tuple #[.agg #[.int .i64 ct, .int .u16 cid, .int .i64 (plusN cv qv), .string cs], .bool true]) ∧ Below u.heap.size u w')) := fun u hu => hpl2'.out u (hB9.out.trans (hu.mono hB9.out.size))
           clear hz9 hz1 hz2 halz
           go_wp2
           refine wp_region_held (S := fun u => Below z9.heap.size z9 u) (by kernel_rfl) ?_
           change wpAnyH _ _ _ _ _ _ _ _ (World.drew z9)
           have hv0 : Hid (Below z9.heap.size z9 z9.drew) := below_drew z9
           refine held_tk (i := 0) (dst := some 84) (v := .agg #[.slice tq tn tc]) rfl rfl (.inl ⟨rfl, fun u hu => by have y0 : u.cell? ⟨w.heap.size + 1, 0, none⟩ = some (.slice tq tn tc) := (s2.out.below hu).cell 0; go_simp⟩) hv0.out ?_
           go_frame
           refine held_tk (i := 1) (dst := some 85) (v := .slice (some A) ln lc) rfl rfl (y_move (.tmp 2) rfl rfl rfl) hv0.out ?_
           go_frame
           refine held_tk (i := 2) (dst := some 86) (v := .int .i64 (k : Int)) rfl rfl (y_move (.tmp 11) rfl rfl rfl) hv0.out ?_
           go_frame
           refine held_tk (i := 3) (dst := some 87) (v := .pointer (some (A.add (k * 4)))) rfl rfl (.inl ⟨rfl, fun u _ => by go_simp⟩) hv0.out ?_
           go_frame
           refine held_tk (i := 4) (dst := some 88) (v := .agg #[.int .i64 ct, .int .u16 cid, .int .i64 cv, .string cs]) rfl rfl (y_load_agg 68 (.tmp 87) rfl rfl rfl (fun u hu => run_loadVar_at Try.underlying68 rfl (sizeRow ct cid cv cs) _ (fun j x hj => cell_keeps hu (Nat.le_refl _) (hc2.out j x hj)))) hv0.out ?_
           go_frame
           refine held_tk (i := 5) (dst := some 89) (v := .pointer (some ⟨w.heap.size, 5, none⟩)) rfl rfl (.inl ⟨rfl, fun u _ => by go_simp⟩) hv0.out ?_
           go_frame
           refine held_tk (i := 6) (dst := some 90) (v := .int .i64 qv) rfl rfl (.inl ⟨rfl, fun u hu => by have y0 : u.cell? ⟨w.heap.size, 5, none⟩ = some (.int .i64 qv) := (q2.out.below hu).cell 5; go_simp⟩) hv0.out ?_
           go_frame
           refine any_two (i := 7) (j := 11) (by kernel_rfl) ?_ ?_
           · refine call_op (dst := some 91) rfl rfl rfl (by go_simp) (hpl2.out z9.drew hv0.out) ?_
             rintro e v1 ⟨rfl, hb⟩
             have hv1 : Hid (Below z9.heap.size z9 v1) := hv0.out.trans (hb.mono hv0.out.size)
             clear hb
             refine ⟨_, rfl, hv1.out, ?_⟩
             go_frame
             refine held_tk (i := 8) (dst := some 83) (v := .tuple #[.agg #[.int .i64 ct, .int .u16 cid, .int .i64 (plusN cv qv), .string cs], .bool true]) rfl rfl (y_move (.tmp 91) rfl rfl rfl) hv1.out ?_
             go_frame
             refine held_tk (i := 9) (dst := some 92) (v := .agg #[.int .i64 ct, .int .u16 cid, .int .i64 (plusN cv qv), .string cs]) rfl rfl (.inl ⟨rfl, fun u _ => by go_simp⟩) hv1.out ?_
             go_frame
             refine held_tk (i := 10) (dst := some 93) (v := .bool true) rfl rfl (.inl ⟨rfl, fun u _ => by go_simp⟩) hv1.out ?_
             go_frame
             obtain ⟨v2, huv2⟩ : ∃ v2, v1.alloc (.cells #[.int .i64 0, .int .u16 0, .int .i64 0, .string ⟨#[]⟩] 68) = v2 := ⟨_, rfl⟩
             have hbx2 := one_rowI (xs := [.int .i64 0, .int .u16 0, .int .i64 0, .string ⟨#[]⟩]) huv2
             have hv2 : Hid (Below z9.heap.size z9 v2) := hv1.out.trans (hbx2.1.mono hv1.out.size)
             have halv : Hid (z9.heap.size ≤ v1.heap.size) := hv1.out.size
             refine held_value (i := 11) (dst := some 14) (w' := v2) (v := .pointer (some ⟨v1.heap.size, 0, none⟩)) rfl rfl (by kernel_rfl) rfl (by rw [← huv2]; go_simp) hv2.out ?_
             go_frame
             clear huv2
             obtain ⟨v9, hst, h9, hg9⟩ := run_storeVar_at (P := Try.prog) (ty := 68) (o := 0) (vs := [.int .i64 ct, .int .u16 cid, .int .i64 (plusN cv qv), .string cs]) hbx2.2.1 (sizeRow _ _ _ _) (Nat.le_refl _) (RowD.one ⟨⟨ct, cid⟩, plusN cv qv, cs⟩)
             have hv9 : Hid (Below z9.heap.size z9 v9) := hv2.out.grown hg9 hv2.out.size (fun k hk => by cases hk; exact halv.out)
             refine held_skip (i := 12) (dst := none) (w' := v9) rfl rfl (by kernel_rfl) rfl (run_store_op rfl rfl rfl hst) hv9.out ?_
             go_frame
             refine held_tk (i := 13) (dst := some 15) (v := .bool true) rfl rfl (.inl ⟨rfl, fun u _ => by go_simp⟩) hv9.out ?_
             go_frame
             refine wpAnyH_done (by kernel_rfl) ?_ _
             clear hst h9 hg9 hv0
             go_wp2
             go_ret
             exact ⟨by rw [he'.out]; rfl, b2.out.trans (hv9.out.mono b2.out.size)⟩
           · obtain ⟨v1, huv1⟩ : ∃ v1, z9.drew.alloc (.cells #[.int .i64 0, .int .u16 0, .int .i64 0, .string ⟨#[]⟩] 68) = v1 := ⟨_, rfl⟩
             have hbx2 := one_rowI (xs := [.int .i64 0, .int .u16 0, .int .i64 0, .string ⟨#[]⟩]) huv1
             have hv1 : Hid (Below z9.heap.size z9 v1) := hv0.out.trans (hbx2.1.mono hv0.out.size)
             have halv : Hid (z9.heap.size ≤ z9.drew.heap.size) := hv0.out.size
             refine value_op (dst := some 14) (w' := v1) (v := .pointer (some ⟨z9.drew.heap.size, 0, none⟩)) rfl rfl rfl (by rw [← huv1]; go_simp) ⟨hv1.out, ?_⟩
             go_frame
             clear huv1
             refine held_call (i := 7) (dst := some 91) rfl rfl (by kernel_rfl) rfl (by go_simp) (hpl2.out v1 hv1.out) ?_
             rintro e v2 ⟨rfl, hb⟩
             have hv2 : Hid (Below z9.heap.size z9 v2) := hv1.out.trans (hb.mono hv1.out.size)
             have hzr := hbx2.2.1.below hb
             clear hb hbx2
             refine ⟨_, rfl, hv2.out, ?_⟩
             go_frame
             refine held_tk (i := 8) (dst := some 83) (v := .tuple #[.agg #[.int .i64 ct, .int .u16 cid, .int .i64 (plusN cv qv), .string cs], .bool true]) rfl rfl (y_move (.tmp 91) rfl rfl rfl) hv2.out ?_
             go_frame
             refine held_tk (i := 9) (dst := some 92) (v := .agg #[.int .i64 ct, .int .u16 cid, .int .i64 (plusN cv qv), .string cs]) rfl rfl (.inl ⟨rfl, fun u _ => by go_simp⟩) hv2.out ?_
             go_frame
             refine held_tk (i := 10) (dst := some 93) (v := .bool true) rfl rfl (.inl ⟨rfl, fun u _ => by go_simp⟩) hv2.out ?_
             go_frame
             obtain ⟨v9, hst, h9, hg9⟩ := run_storeVar_at (P := Try.prog) (ty := 68) (o := 0) (vs := [.int .i64 ct, .int .u16 cid, .int .i64 (plusN cv qv), .string cs]) hzr (sizeRow _ _ _ _) (Nat.le_refl _) (RowD.one ⟨⟨ct, cid⟩, plusN cv qv, cs⟩)
             have hv9 : Hid (Below z9.heap.size z9 v9) := hv2.out.grown hg9 hv2.out.size (fun k hk => by cases hk; exact halv.out)
             refine held_skip (i := 12) (dst := none) (w' := v9) rfl rfl (by kernel_rfl) rfl (run_store_op rfl rfl rfl hst) hv9.out ?_
             go_frame
             refine held_tk (i := 13) (dst := some 15) (v := .bool true) rfl rfl (.inl ⟨rfl, fun u _ => by go_simp⟩) hv9.out ?_
             go_frame
             refine wpAnyH_done (by kernel_rfl) ?_ _
             clear hst h9 hg9 hv0
             go_wp2
             go_ret
             exact ⟨by rw [he'.out]; rfl, b2.out.trans (hv9.out.mono b2.out.size)⟩
         · obtain ⟨z1, huz1⟩ : ∃ z1, u1.drew.alloc (.cells #[.int .i64 0, .int .u16 0, .int .i64 0, .string ⟨#[]⟩] 68) = z1 := ⟨_, rfl⟩
           have hbx2 := one_rowI (xs := [.int .i64 0, .int .u16 0, .int .i64 0, .string ⟨#[]⟩]) huz1
           have hz1 : Hid (Below u1.heap.size u1 z1) := hz0.out.trans (hbx2.1.mono hz0.out.size)
           have halz : Hid (u1.heap.size ≤ u1.drew.heap.size) := hz0.out.size
           refine value_op (dst := some 12) (w' := z1) (v := .pointer (some ⟨u1.drew.heap.size, 0, none⟩)) rfl rfl rfl (by rw [← huz1]; go_simp) ⟨hz1.out, ?_⟩
           go_frame
           clear huz1
           refine held_call (i := 8) (dst := some 80) rfl rfl (by kernel_rfl) rfl (by go_simp) (hpl.out z1 hz1.out) ?_
           rintro e z2 ⟨rfl, hb⟩
           have hz2 : Hid (Below u1.heap.size u1 z2) := hz1.out.trans (hb.mono hz1.out.size)
           have hzr := hbx2.2.1.below hb
           clear hb hbx2
           refine ⟨_, rfl, hz2.out, ?_⟩
           go_frame
           refine held_tk (i := 9) (dst := some 71) (v := .tuple #[.agg #[.int .i64 dt, .int .u16 di, .int .i64 (plusN dv (-qv)), .string ds], .bool true]) rfl rfl (y_move (.tmp 80) rfl rfl rfl) hz2.out ?_
           go_frame
           refine held_tk (i := 10) (dst := some 81) (v := .agg #[.int .i64 dt, .int .u16 di, .int .i64 (plusN dv (-qv)), .string ds]) rfl rfl (.inl ⟨rfl, fun u _ => by go_simp⟩) hz2.out ?_
           go_frame
           refine held_tk (i := 11) (dst := some 82) (v := .bool true) rfl rfl (.inl ⟨rfl, fun u _ => by go_simp⟩) hz2.out ?_
           go_frame
           obtain ⟨z9, hst, h9, hg9⟩ := run_storeVar_at (P := Try.prog) (ty := 68) (o := 0) (vs := [.int .i64 dt, .int .u16 di, .int .i64 (plusN dv (-qv)), .string ds]) hzr (sizeRow _ _ _ _) (Nat.le_refl _) (RowD.one ⟨⟨dt, di⟩, plusN dv (-qv), ds⟩)
           have hz9 : Hid (Below u1.heap.size u1 z9) := hz2.out.grown hg9 hz2.out.size (fun k hk => by cases hk; exact halz.out)
           refine held_skip (i := 13) (dst := none) (w' := z9) rfl rfl (by kernel_rfl) rfl (run_store_op rfl rfl rfl hst) hz9.out ?_
           go_frame
           refine held_tk (i := 14) (dst := some 13) (v := .bool true) rfl rfl (.inl ⟨rfl, fun u _ => by go_simp⟩) hz9.out ?_
           go_frame
           refine wpAnyH_done (by kernel_rfl) ?_ _
           clear hst h9 hg9 hz0
           have hB9 := Lib.hid hz9.out
           have q2 := Lib.hid (q1.out.below hz9.out)
           have s2 := Lib.hid (s1.out.below hz9.out)
           have b2 := Lib.hid (b1.out.trans (hz9.out.mono b1.out.size))
           have hc2 : Hid (∀ j x, (⟨⟨ct, cid⟩, cv, cs⟩ : RowD).cells[j]? = some x → z9.cell? ((A.add (k * 4)).add j) = some x) := fun j x hj => cell_keeps hz9.out (Nat.le_refl _) (hd1.out j x hj)
           have hpl2 : Hid (∀ u, Below z9.heap.size z9 u → Calls Try.prog 48 #[.agg #[.slice tq tn tc], .agg #[.int .i64 ct, .int .u16 cid, .int .i64 cv, .string cs], .int .i64 qv] u (fun e w' => e = .returned (.tuple #[.agg #[.int .i64 ct, .int .u16 cid, .int .i64 (plusN cv qv), .string cs], .bool true]) ∧ Below u.heap.size u w')) := fun u hu => hpl2'.out u (hB9.out.trans (hu.mono hB9.out.size))
           clear hz9 hz1 hz2 halz
           go_wp2
           refine wp_region_held (S := fun u => Below z9.heap.size z9 u) (by kernel_rfl) ?_
           change wpAnyH _ _ _ _ _ _ _ _ (World.drew z9)
           have hv0 : Hid (Below z9.heap.size z9 z9.drew) := below_drew z9
           refine held_tk (i := 0) (dst := some 84) (v := .agg #[.slice tq tn tc]) rfl rfl (.inl ⟨rfl, fun u hu => by have y0 : u.cell? ⟨w.heap.size + 1, 0, none⟩ = some (.slice tq tn tc) := (s2.out.below hu).cell 0; go_simp⟩) hv0.out ?_
           go_frame
           refine held_tk (i := 1) (dst := some 85) (v := .slice (some A) ln lc) rfl rfl (y_move (.tmp 2) rfl rfl rfl) hv0.out ?_
           go_frame
           refine held_tk (i := 2) (dst := some 86) (v := .int .i64 (k : Int)) rfl rfl (y_move (.tmp 11) rfl rfl rfl) hv0.out ?_
           go_frame
           refine held_tk (i := 3) (dst := some 87) (v := .pointer (some (A.add (k * 4)))) rfl rfl (.inl ⟨rfl, fun u _ => by go_simp⟩) hv0.out ?_
           go_frame
           refine held_tk (i := 4) (dst := some 88) (v := .agg #[.int .i64 ct, .int .u16 cid, .int .i64 cv, .string cs]) rfl rfl (y_load_agg 68 (.tmp 87) rfl rfl rfl (fun u hu => run_loadVar_at Try.underlying68 rfl (sizeRow ct cid cv cs) _ (fun j x hj => cell_keeps hu (Nat.le_refl _) (hc2.out j x hj)))) hv0.out ?_
           go_frame
           refine held_tk (i := 5) (dst := some 89) (v := .pointer (some ⟨w.heap.size, 5, none⟩)) rfl rfl (.inl ⟨rfl, fun u _ => by go_simp⟩) hv0.out ?_
           go_frame
           refine held_tk (i := 6) (dst := some 90) (v := .int .i64 qv) rfl rfl (.inl ⟨rfl, fun u hu => by have y0 : u.cell? ⟨w.heap.size, 5, none⟩ = some (.int .i64 qv) := (q2.out.below hu).cell 5; go_simp⟩) hv0.out ?_
           go_frame
           refine any_two (i := 7) (j := 11) (by kernel_rfl) ?_ ?_
           · refine call_op (dst := some 91) rfl rfl rfl (by go_simp) (hpl2.out z9.drew hv0.out) ?_
             rintro e v1 ⟨rfl, hb⟩
             have hv1 : Hid (Below z9.heap.size z9 v1) := hv0.out.trans (hb.mono hv0.out.size)
             clear hb
             refine ⟨_, rfl, hv1.out, ?_⟩
             go_frame
             refine held_tk (i := 8) (dst := some 83) (v := .tuple #[.agg #[.int .i64 ct, .int .u16 cid, .int .i64 (plusN cv qv), .string cs], .bool true]) rfl rfl (y_move (.tmp 91) rfl rfl rfl) hv1.out ?_
             go_frame
             refine held_tk (i := 9) (dst := some 92) (v := .agg #[.int .i64 ct, .int .u16 cid, .int .i64 (plusN cv qv), .string cs]) rfl rfl (.inl ⟨rfl, fun u _ => by go_simp⟩) hv1.out ?_
             go_frame
             refine held_tk (i := 10) (dst := some 93) (v := .bool true) rfl rfl (.inl ⟨rfl, fun u _ => by go_simp⟩) hv1.out ?_
             go_frame
             obtain ⟨v2, huv2⟩ : ∃ v2, v1.alloc (.cells #[.int .i64 0, .int .u16 0, .int .i64 0, .string ⟨#[]⟩] 68) = v2 := ⟨_, rfl⟩
             have hbx2 := one_rowI (xs := [.int .i64 0, .int .u16 0, .int .i64 0, .string ⟨#[]⟩]) huv2
             have hv2 : Hid (Below z9.heap.size z9 v2) := hv1.out.trans (hbx2.1.mono hv1.out.size)
             have halv : Hid (z9.heap.size ≤ v1.heap.size) := hv1.out.size
             refine held_value (i := 11) (dst := some 14) (w' := v2) (v := .pointer (some ⟨v1.heap.size, 0, none⟩)) rfl rfl (by kernel_rfl) rfl (by rw [← huv2]; go_simp) hv2.out ?_
             go_frame
             clear huv2
             obtain ⟨v9, hst, h9, hg9⟩ := run_storeVar_at (P := Try.prog) (ty := 68) (o := 0) (vs := [.int .i64 ct, .int .u16 cid, .int .i64 (plusN cv qv), .string cs]) hbx2.2.1 (sizeRow _ _ _ _) (Nat.le_refl _) (RowD.one ⟨⟨ct, cid⟩, plusN cv qv, cs⟩)
             have hv9 : Hid (Below z9.heap.size z9 v9) := hv2.out.grown hg9 hv2.out.size (fun k hk => by cases hk; exact halv.out)
             refine held_skip (i := 12) (dst := none) (w' := v9) rfl rfl (by kernel_rfl) rfl (run_store_op rfl rfl rfl hst) hv9.out ?_
             go_frame
             refine held_tk (i := 13) (dst := some 15) (v := .bool true) rfl rfl (.inl ⟨rfl, fun u _ => by go_simp⟩) hv9.out ?_
             go_frame
             refine wpAnyH_done (by kernel_rfl) ?_ _
             clear hst h9 hg9 hv0
             go_wp2
             go_ret
             exact ⟨by rw [he'.out]; rfl, b2.out.trans (hv9.out.mono b2.out.size)⟩
           · obtain ⟨v1, huv1⟩ : ∃ v1, z9.drew.alloc (.cells #[.int .i64 0, .int .u16 0, .int .i64 0, .string ⟨#[]⟩] 68) = v1 := ⟨_, rfl⟩
             have hbx2 := one_rowI (xs := [.int .i64 0, .int .u16 0, .int .i64 0, .string ⟨#[]⟩]) huv1
             have hv1 : Hid (Below z9.heap.size z9 v1) := hv0.out.trans (hbx2.1.mono hv0.out.size)
             have halv : Hid (z9.heap.size ≤ z9.drew.heap.size) := hv0.out.size
             refine value_op (dst := some 14) (w' := v1) (v := .pointer (some ⟨z9.drew.heap.size, 0, none⟩)) rfl rfl rfl (by rw [← huv1]; go_simp) ⟨hv1.out, ?_⟩
             go_frame
             clear huv1
             refine held_call (i := 7) (dst := some 91) rfl rfl (by kernel_rfl) rfl (by go_simp) (hpl2.out v1 hv1.out) ?_
             rintro e v2 ⟨rfl, hb⟩
             have hv2 : Hid (Below z9.heap.size z9 v2) := hv1.out.trans (hb.mono hv1.out.size)
             have hzr := hbx2.2.1.below hb
             clear hb hbx2
             refine ⟨_, rfl, hv2.out, ?_⟩
             go_frame
             refine held_tk (i := 8) (dst := some 83) (v := .tuple #[.agg #[.int .i64 ct, .int .u16 cid, .int .i64 (plusN cv qv), .string cs], .bool true]) rfl rfl (y_move (.tmp 91) rfl rfl rfl) hv2.out ?_
             go_frame
             refine held_tk (i := 9) (dst := some 92) (v := .agg #[.int .i64 ct, .int .u16 cid, .int .i64 (plusN cv qv), .string cs]) rfl rfl (.inl ⟨rfl, fun u _ => by go_simp⟩) hv2.out ?_
             go_frame
             refine held_tk (i := 10) (dst := some 93) (v := .bool true) rfl rfl (.inl ⟨rfl, fun u _ => by go_simp⟩) hv2.out ?_
             go_frame
             obtain ⟨v9, hst, h9, hg9⟩ := run_storeVar_at (P := Try.prog) (ty := 68) (o := 0) (vs := [.int .i64 ct, .int .u16 cid, .int .i64 (plusN cv qv), .string cs]) hzr (sizeRow _ _ _ _) (Nat.le_refl _) (RowD.one ⟨⟨ct, cid⟩, plusN cv qv, cs⟩)
             have hv9 : Hid (Below z9.heap.size z9 v9) := hv2.out.grown hg9 hv2.out.size (fun k hk => by cases hk; exact halv.out)
             refine held_skip (i := 12) (dst := none) (w' := v9) rfl rfl (by kernel_rfl) rfl (run_store_op rfl rfl rfl hst) hv9.out ?_
             go_frame
             refine held_tk (i := 13) (dst := some 15) (v := .bool true) rfl rfl (.inl ⟨rfl, fun u _ => by go_simp⟩) hv9.out ?_
             go_frame
             refine wpAnyH_done (by kernel_rfl) ?_ _
             clear hst h9 hg9 hv0
             go_wp2
             go_ret
             exact ⟨by rw [he'.out]; rfl, b2.out.trans (hv9.out.mono b2.out.size)⟩
       | false =>
         go_wp2
         refine wp_region_held (S := fun u => Below u1.heap.size u1 u) (by kernel_rfl) ?_
         change wpAnyH _ _ _ _ _ _ _ _ (World.drew u1)
         have hz0 : Hid (Below u1.heap.size u1 u1.drew) := below_drew u1
         refine held_tk (i := 0) (dst := some 72) (v := .agg #[.slice tq tn tc]) rfl rfl (.inl ⟨rfl, fun u hu => by have y0 : u.cell? ⟨w.heap.size + 1, 0, none⟩ = some (.slice tq tn tc) := (s1.out.below hu).cell 0; go_simp⟩) hz0.out ?_
         go_frame
         refine held_tk (i := 1) (dst := some 73) (v := .slice (some A) ln lc) rfl rfl (y_move (.tmp 2) rfl rfl rfl) hz0.out ?_
         go_frame
         refine held_tk (i := 2) (dst := some 74) (v := .int .i64 (i : Int)) rfl rfl (y_move (.tmp 3) rfl rfl rfl) hz0.out ?_
         go_frame
         refine held_tk (i := 3) (dst := some 75) (v := .pointer (some (A.add (i * 4)))) rfl rfl (.inl ⟨rfl, fun u _ => by go_simp⟩) hz0.out ?_
         go_frame
         refine held_tk (i := 4) (dst := some 76) (v := .agg #[.int .i64 dt, .int .u16 di, .int .i64 dv, .string ds]) rfl rfl (y_load_agg 68 (.tmp 75) rfl rfl rfl (fun u hu => run_loadVar_at Try.underlying68 rfl (sizeRow dt di dv ds) _ (fun j x hj => cell_keeps hu (Nat.le_refl _) (hc1.out j x hj)))) hz0.out ?_
         go_frame
         refine held_tk (i := 5) (dst := some 77) (v := .pointer (some ⟨w.heap.size, 5, none⟩)) rfl rfl (.inl ⟨rfl, fun u _ => by go_simp⟩) hz0.out ?_
         go_frame
         refine held_tk (i := 6) (dst := some 78) (v := .int .i64 qv) rfl rfl (.inl ⟨rfl, fun u hu => by have y0 : u.cell? ⟨w.heap.size, 5, none⟩ = some (.int .i64 qv) := (q1.out.below hu).cell 5; go_simp⟩) hz0.out ?_
         go_frame
         refine held_tk (i := 7) (dst := some 79) (v := .int .i64 (-qv)) rfl rfl (.inl ⟨rfl, fun u _ => by have hw := hneg.out; have hw2 := hneg2.out; first | (go_simp; done) | (go_simp; rw [hw]; done) | (go_simp; rw [hw2]; done)⟩) hz0.out ?_
         go_frame
         refine any_two (i := 8) (j := 12) (by kernel_rfl) ?_ ?_
         · refine call_op (dst := some 80) rfl rfl rfl (by go_simp) (hpl.out u1.drew hz0.out) ?_
           rintro e z1 ⟨rfl, hb⟩
           have hz1 : Hid (Below u1.heap.size u1 z1) := hz0.out.trans (hb.mono hz0.out.size)
           clear hb
           refine ⟨_, rfl, hz1.out, ?_⟩
           go_frame
           refine held_tk (i := 9) (dst := some 71) (v := .tuple #[.agg #[.int .i64 dt, .int .u16 di, .int .i64 (plusN dv (-qv)), .string ds], .bool true]) rfl rfl (y_move (.tmp 80) rfl rfl rfl) hz1.out ?_
           go_frame
           refine held_tk (i := 10) (dst := some 81) (v := .agg #[.int .i64 dt, .int .u16 di, .int .i64 (plusN dv (-qv)), .string ds]) rfl rfl (.inl ⟨rfl, fun u _ => by go_simp⟩) hz1.out ?_
           go_frame
           refine held_tk (i := 11) (dst := some 82) (v := .bool true) rfl rfl (.inl ⟨rfl, fun u _ => by go_simp⟩) hz1.out ?_
           go_frame
           obtain ⟨z2, huz2⟩ : ∃ z2, z1.alloc (.cells #[.int .i64 0, .int .u16 0, .int .i64 0, .string ⟨#[]⟩] 68) = z2 := ⟨_, rfl⟩
           have hbx2 := one_rowI (xs := [.int .i64 0, .int .u16 0, .int .i64 0, .string ⟨#[]⟩]) huz2
           have hz2 : Hid (Below u1.heap.size u1 z2) := hz1.out.trans (hbx2.1.mono hz1.out.size)
           have halz : Hid (u1.heap.size ≤ z1.heap.size) := hz1.out.size
           refine held_value (i := 12) (dst := some 12) (w' := z2) (v := .pointer (some ⟨z1.heap.size, 0, none⟩)) rfl rfl (by kernel_rfl) rfl (by rw [← huz2]; go_simp) hz2.out ?_
           go_frame
           clear huz2
           obtain ⟨z9, hst, h9, hg9⟩ := run_storeVar_at (P := Try.prog) (ty := 68) (o := 0) (vs := [.int .i64 dt, .int .u16 di, .int .i64 (plusN dv (-qv)), .string ds]) hbx2.2.1 (sizeRow _ _ _ _) (Nat.le_refl _) (RowD.one ⟨⟨dt, di⟩, plusN dv (-qv), ds⟩)
           have hz9 : Hid (Below u1.heap.size u1 z9) := hz2.out.grown hg9 hz2.out.size (fun k hk => by cases hk; exact halz.out)
           refine held_skip (i := 13) (dst := none) (w' := z9) rfl rfl (by kernel_rfl) rfl (run_store_op rfl rfl rfl hst) hz9.out ?_
           go_frame
           refine held_tk (i := 14) (dst := some 13) (v := .bool true) rfl rfl (.inl ⟨rfl, fun u _ => by go_simp⟩) hz9.out ?_
           go_frame
           refine wpAnyH_done (by kernel_rfl) ?_ _
           clear hst h9 hg9 hz0
           have hB9 := Lib.hid hz9.out
           have q2 := Lib.hid (q1.out.below hz9.out)
           have s2 := Lib.hid (s1.out.below hz9.out)
           have b2 := Lib.hid (b1.out.trans (hz9.out.mono b1.out.size))
           have hc2 : Hid (∀ j x, (⟨⟨ct, cid⟩, cv, cs⟩ : RowD).cells[j]? = some x → z9.cell? ((A.add (k * 4)).add j) = some x) := fun j x hj => cell_keeps hz9.out (Nat.le_refl _) (hd1.out j x hj)
           have hpl2 : Hid (∀ u, Below z9.heap.size z9 u → Calls Try.prog 48 #[.agg #[.slice tq tn tc], .agg #[.int .i64 ct, .int .u16 cid, .int .i64 cv, .string cs], .int .i64 qv] u (fun e w' => e = .returned (.tuple #[.agg #[.int .i64 ct, .int .u16 cid, .int .i64 (plusN cv qv), .string cs], .bool false]) ∧ Below u.heap.size u w')) := fun u hu => hpl2'.out u (hB9.out.trans (hu.mono hB9.out.size))
           clear hz9 hz1 hz2 halz
           go_wp2
           refine wp_region_held (S := fun u => Below z9.heap.size z9 u) (by kernel_rfl) ?_
           change wpAnyH _ _ _ _ _ _ _ _ (World.drew z9)
           have hv0 : Hid (Below z9.heap.size z9 z9.drew) := below_drew z9
           refine held_tk (i := 0) (dst := some 84) (v := .agg #[.slice tq tn tc]) rfl rfl (.inl ⟨rfl, fun u hu => by have y0 : u.cell? ⟨w.heap.size + 1, 0, none⟩ = some (.slice tq tn tc) := (s2.out.below hu).cell 0; go_simp⟩) hv0.out ?_
           go_frame
           refine held_tk (i := 1) (dst := some 85) (v := .slice (some A) ln lc) rfl rfl (y_move (.tmp 2) rfl rfl rfl) hv0.out ?_
           go_frame
           refine held_tk (i := 2) (dst := some 86) (v := .int .i64 (k : Int)) rfl rfl (y_move (.tmp 11) rfl rfl rfl) hv0.out ?_
           go_frame
           refine held_tk (i := 3) (dst := some 87) (v := .pointer (some (A.add (k * 4)))) rfl rfl (.inl ⟨rfl, fun u _ => by go_simp⟩) hv0.out ?_
           go_frame
           refine held_tk (i := 4) (dst := some 88) (v := .agg #[.int .i64 ct, .int .u16 cid, .int .i64 cv, .string cs]) rfl rfl (y_load_agg 68 (.tmp 87) rfl rfl rfl (fun u hu => run_loadVar_at Try.underlying68 rfl (sizeRow ct cid cv cs) _ (fun j x hj => cell_keeps hu (Nat.le_refl _) (hc2.out j x hj)))) hv0.out ?_
           go_frame
           refine held_tk (i := 5) (dst := some 89) (v := .pointer (some ⟨w.heap.size, 5, none⟩)) rfl rfl (.inl ⟨rfl, fun u _ => by go_simp⟩) hv0.out ?_
           go_frame
           refine held_tk (i := 6) (dst := some 90) (v := .int .i64 qv) rfl rfl (.inl ⟨rfl, fun u hu => by have y0 : u.cell? ⟨w.heap.size, 5, none⟩ = some (.int .i64 qv) := (q2.out.below hu).cell 5; go_simp⟩) hv0.out ?_
           go_frame
           refine any_two (i := 7) (j := 11) (by kernel_rfl) ?_ ?_
           · refine call_op (dst := some 91) rfl rfl rfl (by go_simp) (hpl2.out z9.drew hv0.out) ?_
             rintro e v1 ⟨rfl, hb⟩
             have hv1 : Hid (Below z9.heap.size z9 v1) := hv0.out.trans (hb.mono hv0.out.size)
             clear hb
             refine ⟨_, rfl, hv1.out, ?_⟩
             go_frame
             refine held_tk (i := 8) (dst := some 83) (v := .tuple #[.agg #[.int .i64 ct, .int .u16 cid, .int .i64 (plusN cv qv), .string cs], .bool false]) rfl rfl (y_move (.tmp 91) rfl rfl rfl) hv1.out ?_
             go_frame
             refine held_tk (i := 9) (dst := some 92) (v := .agg #[.int .i64 ct, .int .u16 cid, .int .i64 (plusN cv qv), .string cs]) rfl rfl (.inl ⟨rfl, fun u _ => by go_simp⟩) hv1.out ?_
             go_frame
             refine held_tk (i := 10) (dst := some 93) (v := .bool false) rfl rfl (.inl ⟨rfl, fun u _ => by go_simp⟩) hv1.out ?_
             go_frame
             obtain ⟨v2, huv2⟩ : ∃ v2, v1.alloc (.cells #[.int .i64 0, .int .u16 0, .int .i64 0, .string ⟨#[]⟩] 68) = v2 := ⟨_, rfl⟩
             have hbx2 := one_rowI (xs := [.int .i64 0, .int .u16 0, .int .i64 0, .string ⟨#[]⟩]) huv2
             have hv2 : Hid (Below z9.heap.size z9 v2) := hv1.out.trans (hbx2.1.mono hv1.out.size)
             have halv : Hid (z9.heap.size ≤ v1.heap.size) := hv1.out.size
             refine held_value (i := 11) (dst := some 14) (w' := v2) (v := .pointer (some ⟨v1.heap.size, 0, none⟩)) rfl rfl (by kernel_rfl) rfl (by rw [← huv2]; go_simp) hv2.out ?_
             go_frame
             clear huv2
             obtain ⟨v9, hst, h9, hg9⟩ := run_storeVar_at (P := Try.prog) (ty := 68) (o := 0) (vs := [.int .i64 ct, .int .u16 cid, .int .i64 (plusN cv qv), .string cs]) hbx2.2.1 (sizeRow _ _ _ _) (Nat.le_refl _) (RowD.one ⟨⟨ct, cid⟩, plusN cv qv, cs⟩)
             have hv9 : Hid (Below z9.heap.size z9 v9) := hv2.out.grown hg9 hv2.out.size (fun k hk => by cases hk; exact halv.out)
             refine held_skip (i := 12) (dst := none) (w' := v9) rfl rfl (by kernel_rfl) rfl (run_store_op rfl rfl rfl hst) hv9.out ?_
             go_frame
             refine held_tk (i := 13) (dst := some 15) (v := .bool false) rfl rfl (.inl ⟨rfl, fun u _ => by go_simp⟩) hv9.out ?_
             go_frame
             refine wpAnyH_done (by kernel_rfl) ?_ _
             clear hst h9 hg9 hv0
             go_wp2
             go_ret
             exact ⟨by rw [he'.out]; rfl, b2.out.trans (hv9.out.mono b2.out.size)⟩
           · obtain ⟨v1, huv1⟩ : ∃ v1, z9.drew.alloc (.cells #[.int .i64 0, .int .u16 0, .int .i64 0, .string ⟨#[]⟩] 68) = v1 := ⟨_, rfl⟩
             have hbx2 := one_rowI (xs := [.int .i64 0, .int .u16 0, .int .i64 0, .string ⟨#[]⟩]) huv1
             have hv1 : Hid (Below z9.heap.size z9 v1) := hv0.out.trans (hbx2.1.mono hv0.out.size)
             have halv : Hid (z9.heap.size ≤ z9.drew.heap.size) := hv0.out.size
             refine value_op (dst := some 14) (w' := v1) (v := .pointer (some ⟨z9.drew.heap.size, 0, none⟩)) rfl rfl rfl (by rw [← huv1]; go_simp) ⟨hv1.out, ?_⟩
             go_frame
             clear huv1
             refine held_call (i := 7) (dst := some 91) rfl rfl (by kernel_rfl) rfl (by go_simp) (hpl2.out v1 hv1.out) ?_
             rintro e v2 ⟨rfl, hb⟩
             have hv2 : Hid (Below z9.heap.size z9 v2) := hv1.out.trans (hb.mono hv1.out.size)
             have hzr := hbx2.2.1.below hb
             clear hb hbx2
             refine ⟨_, rfl, hv2.out, ?_⟩
             go_frame
             refine held_tk (i := 8) (dst := some 83) (v := .tuple #[.agg #[.int .i64 ct, .int .u16 cid, .int .i64 (plusN cv qv), .string cs], .bool false]) rfl rfl (y_move (.tmp 91) rfl rfl rfl) hv2.out ?_
             go_frame
             refine held_tk (i := 9) (dst := some 92) (v := .agg #[.int .i64 ct, .int .u16 cid, .int .i64 (plusN cv qv), .string cs]) rfl rfl (.inl ⟨rfl, fun u _ => by go_simp⟩) hv2.out ?_
             go_frame
             refine held_tk (i := 10) (dst := some 93) (v := .bool false) rfl rfl (.inl ⟨rfl, fun u _ => by go_simp⟩) hv2.out ?_
             go_frame
             obtain ⟨v9, hst, h9, hg9⟩ := run_storeVar_at (P := Try.prog) (ty := 68) (o := 0) (vs := [.int .i64 ct, .int .u16 cid, .int .i64 (plusN cv qv), .string cs]) hzr (sizeRow _ _ _ _) (Nat.le_refl _) (RowD.one ⟨⟨ct, cid⟩, plusN cv qv, cs⟩)
             have hv9 : Hid (Below z9.heap.size z9 v9) := hv2.out.grown hg9 hv2.out.size (fun k hk => by cases hk; exact halv.out)
             refine held_skip (i := 12) (dst := none) (w' := v9) rfl rfl (by kernel_rfl) rfl (run_store_op rfl rfl rfl hst) hv9.out ?_
             go_frame
             refine held_tk (i := 13) (dst := some 15) (v := .bool false) rfl rfl (.inl ⟨rfl, fun u _ => by go_simp⟩) hv9.out ?_
             go_frame
             refine wpAnyH_done (by kernel_rfl) ?_ _
             clear hst h9 hg9 hv0
             go_wp2
             go_ret
             exact ⟨by rw [he'.out]; rfl, b2.out.trans (hv9.out.mono b2.out.size)⟩
         · obtain ⟨z1, huz1⟩ : ∃ z1, u1.drew.alloc (.cells #[.int .i64 0, .int .u16 0, .int .i64 0, .string ⟨#[]⟩] 68) = z1 := ⟨_, rfl⟩
           have hbx2 := one_rowI (xs := [.int .i64 0, .int .u16 0, .int .i64 0, .string ⟨#[]⟩]) huz1
           have hz1 : Hid (Below u1.heap.size u1 z1) := hz0.out.trans (hbx2.1.mono hz0.out.size)
           have halz : Hid (u1.heap.size ≤ u1.drew.heap.size) := hz0.out.size
           refine value_op (dst := some 12) (w' := z1) (v := .pointer (some ⟨u1.drew.heap.size, 0, none⟩)) rfl rfl rfl (by rw [← huz1]; go_simp) ⟨hz1.out, ?_⟩
           go_frame
           clear huz1
           refine held_call (i := 8) (dst := some 80) rfl rfl (by kernel_rfl) rfl (by go_simp) (hpl.out z1 hz1.out) ?_
           rintro e z2 ⟨rfl, hb⟩
           have hz2 : Hid (Below u1.heap.size u1 z2) := hz1.out.trans (hb.mono hz1.out.size)
           have hzr := hbx2.2.1.below hb
           clear hb hbx2
           refine ⟨_, rfl, hz2.out, ?_⟩
           go_frame
           refine held_tk (i := 9) (dst := some 71) (v := .tuple #[.agg #[.int .i64 dt, .int .u16 di, .int .i64 (plusN dv (-qv)), .string ds], .bool true]) rfl rfl (y_move (.tmp 80) rfl rfl rfl) hz2.out ?_
           go_frame
           refine held_tk (i := 10) (dst := some 81) (v := .agg #[.int .i64 dt, .int .u16 di, .int .i64 (plusN dv (-qv)), .string ds]) rfl rfl (.inl ⟨rfl, fun u _ => by go_simp⟩) hz2.out ?_
           go_frame
           refine held_tk (i := 11) (dst := some 82) (v := .bool true) rfl rfl (.inl ⟨rfl, fun u _ => by go_simp⟩) hz2.out ?_
           go_frame
           obtain ⟨z9, hst, h9, hg9⟩ := run_storeVar_at (P := Try.prog) (ty := 68) (o := 0) (vs := [.int .i64 dt, .int .u16 di, .int .i64 (plusN dv (-qv)), .string ds]) hzr (sizeRow _ _ _ _) (Nat.le_refl _) (RowD.one ⟨⟨dt, di⟩, plusN dv (-qv), ds⟩)
           have hz9 : Hid (Below u1.heap.size u1 z9) := hz2.out.grown hg9 hz2.out.size (fun k hk => by cases hk; exact halz.out)
           refine held_skip (i := 13) (dst := none) (w' := z9) rfl rfl (by kernel_rfl) rfl (run_store_op rfl rfl rfl hst) hz9.out ?_
           go_frame
           refine held_tk (i := 14) (dst := some 13) (v := .bool true) rfl rfl (.inl ⟨rfl, fun u _ => by go_simp⟩) hz9.out ?_
           go_frame
           refine wpAnyH_done (by kernel_rfl) ?_ _
           clear hst h9 hg9 hz0
           have hB9 := Lib.hid hz9.out
           have q2 := Lib.hid (q1.out.below hz9.out)
           have s2 := Lib.hid (s1.out.below hz9.out)
           have b2 := Lib.hid (b1.out.trans (hz9.out.mono b1.out.size))
           have hc2 : Hid (∀ j x, (⟨⟨ct, cid⟩, cv, cs⟩ : RowD).cells[j]? = some x → z9.cell? ((A.add (k * 4)).add j) = some x) := fun j x hj => cell_keeps hz9.out (Nat.le_refl _) (hd1.out j x hj)
           have hpl2 : Hid (∀ u, Below z9.heap.size z9 u → Calls Try.prog 48 #[.agg #[.slice tq tn tc], .agg #[.int .i64 ct, .int .u16 cid, .int .i64 cv, .string cs], .int .i64 qv] u (fun e w' => e = .returned (.tuple #[.agg #[.int .i64 ct, .int .u16 cid, .int .i64 (plusN cv qv), .string cs], .bool false]) ∧ Below u.heap.size u w')) := fun u hu => hpl2'.out u (hB9.out.trans (hu.mono hB9.out.size))
           clear hz9 hz1 hz2 halz
           go_wp2
           refine wp_region_held (S := fun u => Below z9.heap.size z9 u) (by kernel_rfl) ?_
           change wpAnyH _ _ _ _ _ _ _ _ (World.drew z9)
           have hv0 : Hid (Below z9.heap.size z9 z9.drew) := below_drew z9
           refine held_tk (i := 0) (dst := some 84) (v := .agg #[.slice tq tn tc]) rfl rfl (.inl ⟨rfl, fun u hu => by have y0 : u.cell? ⟨w.heap.size + 1, 0, none⟩ = some (.slice tq tn tc) := (s2.out.below hu).cell 0; go_simp⟩) hv0.out ?_
           go_frame
           refine held_tk (i := 1) (dst := some 85) (v := .slice (some A) ln lc) rfl rfl (y_move (.tmp 2) rfl rfl rfl) hv0.out ?_
           go_frame
           refine held_tk (i := 2) (dst := some 86) (v := .int .i64 (k : Int)) rfl rfl (y_move (.tmp 11) rfl rfl rfl) hv0.out ?_
           go_frame
           refine held_tk (i := 3) (dst := some 87) (v := .pointer (some (A.add (k * 4)))) rfl rfl (.inl ⟨rfl, fun u _ => by go_simp⟩) hv0.out ?_
           go_frame
           refine held_tk (i := 4) (dst := some 88) (v := .agg #[.int .i64 ct, .int .u16 cid, .int .i64 cv, .string cs]) rfl rfl (y_load_agg 68 (.tmp 87) rfl rfl rfl (fun u hu => run_loadVar_at Try.underlying68 rfl (sizeRow ct cid cv cs) _ (fun j x hj => cell_keeps hu (Nat.le_refl _) (hc2.out j x hj)))) hv0.out ?_
           go_frame
           refine held_tk (i := 5) (dst := some 89) (v := .pointer (some ⟨w.heap.size, 5, none⟩)) rfl rfl (.inl ⟨rfl, fun u _ => by go_simp⟩) hv0.out ?_
           go_frame
           refine held_tk (i := 6) (dst := some 90) (v := .int .i64 qv) rfl rfl (.inl ⟨rfl, fun u hu => by have y0 : u.cell? ⟨w.heap.size, 5, none⟩ = some (.int .i64 qv) := (q2.out.below hu).cell 5; go_simp⟩) hv0.out ?_
           go_frame
           refine any_two (i := 7) (j := 11) (by kernel_rfl) ?_ ?_
           · refine call_op (dst := some 91) rfl rfl rfl (by go_simp) (hpl2.out z9.drew hv0.out) ?_
             rintro e v1 ⟨rfl, hb⟩
             have hv1 : Hid (Below z9.heap.size z9 v1) := hv0.out.trans (hb.mono hv0.out.size)
             clear hb
             refine ⟨_, rfl, hv1.out, ?_⟩
             go_frame
             refine held_tk (i := 8) (dst := some 83) (v := .tuple #[.agg #[.int .i64 ct, .int .u16 cid, .int .i64 (plusN cv qv), .string cs], .bool false]) rfl rfl (y_move (.tmp 91) rfl rfl rfl) hv1.out ?_
             go_frame
             refine held_tk (i := 9) (dst := some 92) (v := .agg #[.int .i64 ct, .int .u16 cid, .int .i64 (plusN cv qv), .string cs]) rfl rfl (.inl ⟨rfl, fun u _ => by go_simp⟩) hv1.out ?_
             go_frame
             refine held_tk (i := 10) (dst := some 93) (v := .bool false) rfl rfl (.inl ⟨rfl, fun u _ => by go_simp⟩) hv1.out ?_
             go_frame
             obtain ⟨v2, huv2⟩ : ∃ v2, v1.alloc (.cells #[.int .i64 0, .int .u16 0, .int .i64 0, .string ⟨#[]⟩] 68) = v2 := ⟨_, rfl⟩
             have hbx2 := one_rowI (xs := [.int .i64 0, .int .u16 0, .int .i64 0, .string ⟨#[]⟩]) huv2
             have hv2 : Hid (Below z9.heap.size z9 v2) := hv1.out.trans (hbx2.1.mono hv1.out.size)
             have halv : Hid (z9.heap.size ≤ v1.heap.size) := hv1.out.size
             refine held_value (i := 11) (dst := some 14) (w' := v2) (v := .pointer (some ⟨v1.heap.size, 0, none⟩)) rfl rfl (by kernel_rfl) rfl (by rw [← huv2]; go_simp) hv2.out ?_
             go_frame
             clear huv2
             obtain ⟨v9, hst, h9, hg9⟩ := run_storeVar_at (P := Try.prog) (ty := 68) (o := 0) (vs := [.int .i64 ct, .int .u16 cid, .int .i64 (plusN cv qv), .string cs]) hbx2.2.1 (sizeRow _ _ _ _) (Nat.le_refl _) (RowD.one ⟨⟨ct, cid⟩, plusN cv qv, cs⟩)
             have hv9 : Hid (Below z9.heap.size z9 v9) := hv2.out.grown hg9 hv2.out.size (fun k hk => by cases hk; exact halv.out)
             refine held_skip (i := 12) (dst := none) (w' := v9) rfl rfl (by kernel_rfl) rfl (run_store_op rfl rfl rfl hst) hv9.out ?_
             go_frame
             refine held_tk (i := 13) (dst := some 15) (v := .bool false) rfl rfl (.inl ⟨rfl, fun u _ => by go_simp⟩) hv9.out ?_
             go_frame
             refine wpAnyH_done (by kernel_rfl) ?_ _
             clear hst h9 hg9 hv0
             go_wp2
             go_ret
             exact ⟨by rw [he'.out]; rfl, b2.out.trans (hv9.out.mono b2.out.size)⟩
           · obtain ⟨v1, huv1⟩ : ∃ v1, z9.drew.alloc (.cells #[.int .i64 0, .int .u16 0, .int .i64 0, .string ⟨#[]⟩] 68) = v1 := ⟨_, rfl⟩
             have hbx2 := one_rowI (xs := [.int .i64 0, .int .u16 0, .int .i64 0, .string ⟨#[]⟩]) huv1
             have hv1 : Hid (Below z9.heap.size z9 v1) := hv0.out.trans (hbx2.1.mono hv0.out.size)
             have halv : Hid (z9.heap.size ≤ z9.drew.heap.size) := hv0.out.size
             refine value_op (dst := some 14) (w' := v1) (v := .pointer (some ⟨z9.drew.heap.size, 0, none⟩)) rfl rfl rfl (by rw [← huv1]; go_simp) ⟨hv1.out, ?_⟩
             go_frame
             clear huv1
             refine held_call (i := 7) (dst := some 91) rfl rfl (by kernel_rfl) rfl (by go_simp) (hpl2.out v1 hv1.out) ?_
             rintro e v2 ⟨rfl, hb⟩
             have hv2 : Hid (Below z9.heap.size z9 v2) := hv1.out.trans (hb.mono hv1.out.size)
             have hzr := hbx2.2.1.below hb
             clear hb hbx2
             refine ⟨_, rfl, hv2.out, ?_⟩
             go_frame
             refine held_tk (i := 8) (dst := some 83) (v := .tuple #[.agg #[.int .i64 ct, .int .u16 cid, .int .i64 (plusN cv qv), .string cs], .bool false]) rfl rfl (y_move (.tmp 91) rfl rfl rfl) hv2.out ?_
             go_frame
             refine held_tk (i := 9) (dst := some 92) (v := .agg #[.int .i64 ct, .int .u16 cid, .int .i64 (plusN cv qv), .string cs]) rfl rfl (.inl ⟨rfl, fun u _ => by go_simp⟩) hv2.out ?_
             go_frame
             refine held_tk (i := 10) (dst := some 93) (v := .bool false) rfl rfl (.inl ⟨rfl, fun u _ => by go_simp⟩) hv2.out ?_
             go_frame
             obtain ⟨v9, hst, h9, hg9⟩ := run_storeVar_at (P := Try.prog) (ty := 68) (o := 0) (vs := [.int .i64 ct, .int .u16 cid, .int .i64 (plusN cv qv), .string cs]) hzr (sizeRow _ _ _ _) (Nat.le_refl _) (RowD.one ⟨⟨ct, cid⟩, plusN cv qv, cs⟩)
             have hv9 : Hid (Below z9.heap.size z9 v9) := hv2.out.grown hg9 hv2.out.size (fun k hk => by cases hk; exact halv.out)
             refine held_skip (i := 12) (dst := none) (w' := v9) rfl rfl (by kernel_rfl) rfl (run_store_op rfl rfl rfl hst) hv9.out ?_
             go_frame
             refine held_tk (i := 13) (dst := some 15) (v := .bool false) rfl rfl (.inl ⟨rfl, fun u _ => by go_simp⟩) hv9.out ?_
             go_frame
             refine wpAnyH_done (by kernel_rfl) ?_ _
             clear hst h9 hg9 hv0
             go_wp2
             go_ret
             exact ⟨by rw [he'.out]; rfl, b2.out.trans (hv9.out.mono b2.out.size)⟩
     | false =>
       cases PC with
       | true =>
         go_wp2
         refine wp_region_held (S := fun u => Below u1.heap.size u1 u) (by kernel_rfl) ?_
         change wpAnyH _ _ _ _ _ _ _ _ (World.drew u1)
         have hz0 : Hid (Below u1.heap.size u1 u1.drew) := below_drew u1
         refine held_tk (i := 0) (dst := some 72) (v := .agg #[.slice tq tn tc]) rfl rfl (.inl ⟨rfl, fun u hu => by have y0 : u.cell? ⟨w.heap.size + 1, 0, none⟩ = some (.slice tq tn tc) := (s1.out.below hu).cell 0; go_simp⟩) hz0.out ?_
         go_frame
         refine held_tk (i := 1) (dst := some 73) (v := .slice (some A) ln lc) rfl rfl (y_move (.tmp 2) rfl rfl rfl) hz0.out ?_
         go_frame
         refine held_tk (i := 2) (dst := some 74) (v := .int .i64 (i : Int)) rfl rfl (y_move (.tmp 3) rfl rfl rfl) hz0.out ?_
         go_frame
         refine held_tk (i := 3) (dst := some 75) (v := .pointer (some (A.add (i * 4)))) rfl rfl (.inl ⟨rfl, fun u _ => by go_simp⟩) hz0.out ?_
         go_frame
         refine held_tk (i := 4) (dst := some 76) (v := .agg #[.int .i64 dt, .int .u16 di, .int .i64 dv, .string ds]) rfl rfl (y_load_agg 68 (.tmp 75) rfl rfl rfl (fun u hu => run_loadVar_at Try.underlying68 rfl (sizeRow dt di dv ds) _ (fun j x hj => cell_keeps hu (Nat.le_refl _) (hc1.out j x hj)))) hz0.out ?_
         go_frame
         refine held_tk (i := 5) (dst := some 77) (v := .pointer (some ⟨w.heap.size, 5, none⟩)) rfl rfl (.inl ⟨rfl, fun u _ => by go_simp⟩) hz0.out ?_
         go_frame
         refine held_tk (i := 6) (dst := some 78) (v := .int .i64 qv) rfl rfl (.inl ⟨rfl, fun u hu => by have y0 : u.cell? ⟨w.heap.size, 5, none⟩ = some (.int .i64 qv) := (q1.out.below hu).cell 5; go_simp⟩) hz0.out ?_
         go_frame
         refine held_tk (i := 7) (dst := some 79) (v := .int .i64 (-qv)) rfl rfl (.inl ⟨rfl, fun u _ => by have hw := hneg.out; have hw2 := hneg2.out; first | (go_simp; done) | (go_simp; rw [hw]; done) | (go_simp; rw [hw2]; done)⟩) hz0.out ?_
         go_frame
         refine any_two (i := 8) (j := 12) (by kernel_rfl) ?_ ?_
         · refine call_op (dst := some 80) rfl rfl rfl (by go_simp) (hpl.out u1.drew hz0.out) ?_
           rintro e z1 ⟨rfl, hb⟩
           have hz1 : Hid (Below u1.heap.size u1 z1) := hz0.out.trans (hb.mono hz0.out.size)
           clear hb
           refine ⟨_, rfl, hz1.out, ?_⟩
           go_frame
           refine held_tk (i := 9) (dst := some 71) (v := .tuple #[.agg #[.int .i64 dt, .int .u16 di, .int .i64 (plusN dv (-qv)), .string ds], .bool false]) rfl rfl (y_move (.tmp 80) rfl rfl rfl) hz1.out ?_
           go_frame
           refine held_tk (i := 10) (dst := some 81) (v := .agg #[.int .i64 dt, .int .u16 di, .int .i64 (plusN dv (-qv)), .string ds]) rfl rfl (.inl ⟨rfl, fun u _ => by go_simp⟩) hz1.out ?_
           go_frame
           refine held_tk (i := 11) (dst := some 82) (v := .bool false) rfl rfl (.inl ⟨rfl, fun u _ => by go_simp⟩) hz1.out ?_
           go_frame
           obtain ⟨z2, huz2⟩ : ∃ z2, z1.alloc (.cells #[.int .i64 0, .int .u16 0, .int .i64 0, .string ⟨#[]⟩] 68) = z2 := ⟨_, rfl⟩
           have hbx2 := one_rowI (xs := [.int .i64 0, .int .u16 0, .int .i64 0, .string ⟨#[]⟩]) huz2
           have hz2 : Hid (Below u1.heap.size u1 z2) := hz1.out.trans (hbx2.1.mono hz1.out.size)
           have halz : Hid (u1.heap.size ≤ z1.heap.size) := hz1.out.size
           refine held_value (i := 12) (dst := some 12) (w' := z2) (v := .pointer (some ⟨z1.heap.size, 0, none⟩)) rfl rfl (by kernel_rfl) rfl (by rw [← huz2]; go_simp) hz2.out ?_
           go_frame
           clear huz2
           obtain ⟨z9, hst, h9, hg9⟩ := run_storeVar_at (P := Try.prog) (ty := 68) (o := 0) (vs := [.int .i64 dt, .int .u16 di, .int .i64 (plusN dv (-qv)), .string ds]) hbx2.2.1 (sizeRow _ _ _ _) (Nat.le_refl _) (RowD.one ⟨⟨dt, di⟩, plusN dv (-qv), ds⟩)
           have hz9 : Hid (Below u1.heap.size u1 z9) := hz2.out.grown hg9 hz2.out.size (fun k hk => by cases hk; exact halz.out)
           refine held_skip (i := 13) (dst := none) (w' := z9) rfl rfl (by kernel_rfl) rfl (run_store_op rfl rfl rfl hst) hz9.out ?_
           go_frame
           refine held_tk (i := 14) (dst := some 13) (v := .bool false) rfl rfl (.inl ⟨rfl, fun u _ => by go_simp⟩) hz9.out ?_
           go_frame
           refine wpAnyH_done (by kernel_rfl) ?_ _
           clear hst h9 hg9 hz0
           have hB9 := Lib.hid hz9.out
           have q2 := Lib.hid (q1.out.below hz9.out)
           have s2 := Lib.hid (s1.out.below hz9.out)
           have b2 := Lib.hid (b1.out.trans (hz9.out.mono b1.out.size))
           have hc2 : Hid (∀ j x, (⟨⟨ct, cid⟩, cv, cs⟩ : RowD).cells[j]? = some x → z9.cell? ((A.add (k * 4)).add j) = some x) := fun j x hj => cell_keeps hz9.out (Nat.le_refl _) (hd1.out j x hj)
           have hpl2 : Hid (∀ u, Below z9.heap.size z9 u → Calls Try.prog 48 #[.agg #[.slice tq tn tc], .agg #[.int .i64 ct, .int .u16 cid, .int .i64 cv, .string cs], .int .i64 qv] u (fun e w' => e = .returned (.tuple #[.agg #[.int .i64 ct, .int .u16 cid, .int .i64 (plusN cv qv), .string cs], .bool true]) ∧ Below u.heap.size u w')) := fun u hu => hpl2'.out u (hB9.out.trans (hu.mono hB9.out.size))
           clear hz9 hz1 hz2 halz
           go_wp2
           refine wp_region_held (S := fun u => Below z9.heap.size z9 u) (by kernel_rfl) ?_
           change wpAnyH _ _ _ _ _ _ _ _ (World.drew z9)
           have hv0 : Hid (Below z9.heap.size z9 z9.drew) := below_drew z9
           refine held_tk (i := 0) (dst := some 84) (v := .agg #[.slice tq tn tc]) rfl rfl (.inl ⟨rfl, fun u hu => by have y0 : u.cell? ⟨w.heap.size + 1, 0, none⟩ = some (.slice tq tn tc) := (s2.out.below hu).cell 0; go_simp⟩) hv0.out ?_
           go_frame
           refine held_tk (i := 1) (dst := some 85) (v := .slice (some A) ln lc) rfl rfl (y_move (.tmp 2) rfl rfl rfl) hv0.out ?_
           go_frame
           refine held_tk (i := 2) (dst := some 86) (v := .int .i64 (k : Int)) rfl rfl (y_move (.tmp 11) rfl rfl rfl) hv0.out ?_
           go_frame
           refine held_tk (i := 3) (dst := some 87) (v := .pointer (some (A.add (k * 4)))) rfl rfl (.inl ⟨rfl, fun u _ => by go_simp⟩) hv0.out ?_
           go_frame
           refine held_tk (i := 4) (dst := some 88) (v := .agg #[.int .i64 ct, .int .u16 cid, .int .i64 cv, .string cs]) rfl rfl (y_load_agg 68 (.tmp 87) rfl rfl rfl (fun u hu => run_loadVar_at Try.underlying68 rfl (sizeRow ct cid cv cs) _ (fun j x hj => cell_keeps hu (Nat.le_refl _) (hc2.out j x hj)))) hv0.out ?_
           go_frame
           refine held_tk (i := 5) (dst := some 89) (v := .pointer (some ⟨w.heap.size, 5, none⟩)) rfl rfl (.inl ⟨rfl, fun u _ => by go_simp⟩) hv0.out ?_
           go_frame
           refine held_tk (i := 6) (dst := some 90) (v := .int .i64 qv) rfl rfl (.inl ⟨rfl, fun u hu => by have y0 : u.cell? ⟨w.heap.size, 5, none⟩ = some (.int .i64 qv) := (q2.out.below hu).cell 5; go_simp⟩) hv0.out ?_
           go_frame
           refine any_two (i := 7) (j := 11) (by kernel_rfl) ?_ ?_
           · refine call_op (dst := some 91) rfl rfl rfl (by go_simp) (hpl2.out z9.drew hv0.out) ?_
             rintro e v1 ⟨rfl, hb⟩
             have hv1 : Hid (Below z9.heap.size z9 v1) := hv0.out.trans (hb.mono hv0.out.size)
             clear hb
             refine ⟨_, rfl, hv1.out, ?_⟩
             go_frame
             refine held_tk (i := 8) (dst := some 83) (v := .tuple #[.agg #[.int .i64 ct, .int .u16 cid, .int .i64 (plusN cv qv), .string cs], .bool true]) rfl rfl (y_move (.tmp 91) rfl rfl rfl) hv1.out ?_
             go_frame
             refine held_tk (i := 9) (dst := some 92) (v := .agg #[.int .i64 ct, .int .u16 cid, .int .i64 (plusN cv qv), .string cs]) rfl rfl (.inl ⟨rfl, fun u _ => by go_simp⟩) hv1.out ?_
             go_frame
             refine held_tk (i := 10) (dst := some 93) (v := .bool true) rfl rfl (.inl ⟨rfl, fun u _ => by go_simp⟩) hv1.out ?_
             go_frame
             obtain ⟨v2, huv2⟩ : ∃ v2, v1.alloc (.cells #[.int .i64 0, .int .u16 0, .int .i64 0, .string ⟨#[]⟩] 68) = v2 := ⟨_, rfl⟩
             have hbx2 := one_rowI (xs := [.int .i64 0, .int .u16 0, .int .i64 0, .string ⟨#[]⟩]) huv2
             have hv2 : Hid (Below z9.heap.size z9 v2) := hv1.out.trans (hbx2.1.mono hv1.out.size)
             have halv : Hid (z9.heap.size ≤ v1.heap.size) := hv1.out.size
             refine held_value (i := 11) (dst := some 14) (w' := v2) (v := .pointer (some ⟨v1.heap.size, 0, none⟩)) rfl rfl (by kernel_rfl) rfl (by rw [← huv2]; go_simp) hv2.out ?_
             go_frame
             clear huv2
             obtain ⟨v9, hst, h9, hg9⟩ := run_storeVar_at (P := Try.prog) (ty := 68) (o := 0) (vs := [.int .i64 ct, .int .u16 cid, .int .i64 (plusN cv qv), .string cs]) hbx2.2.1 (sizeRow _ _ _ _) (Nat.le_refl _) (RowD.one ⟨⟨ct, cid⟩, plusN cv qv, cs⟩)
             have hv9 : Hid (Below z9.heap.size z9 v9) := hv2.out.grown hg9 hv2.out.size (fun k hk => by cases hk; exact halv.out)
             refine held_skip (i := 12) (dst := none) (w' := v9) rfl rfl (by kernel_rfl) rfl (run_store_op rfl rfl rfl hst) hv9.out ?_
             go_frame
             refine held_tk (i := 13) (dst := some 15) (v := .bool true) rfl rfl (.inl ⟨rfl, fun u _ => by go_simp⟩) hv9.out ?_
             go_frame
             refine wpAnyH_done (by kernel_rfl) ?_ _
             clear hst h9 hg9 hv0
             go_wp2
             go_ret
             exact ⟨by rw [he'.out]; rfl, b2.out.trans (hv9.out.mono b2.out.size)⟩
           · obtain ⟨v1, huv1⟩ : ∃ v1, z9.drew.alloc (.cells #[.int .i64 0, .int .u16 0, .int .i64 0, .string ⟨#[]⟩] 68) = v1 := ⟨_, rfl⟩
             have hbx2 := one_rowI (xs := [.int .i64 0, .int .u16 0, .int .i64 0, .string ⟨#[]⟩]) huv1
             have hv1 : Hid (Below z9.heap.size z9 v1) := hv0.out.trans (hbx2.1.mono hv0.out.size)
             have halv : Hid (z9.heap.size ≤ z9.drew.heap.size) := hv0.out.size
             refine value_op (dst := some 14) (w' := v1) (v := .pointer (some ⟨z9.drew.heap.size, 0, none⟩)) rfl rfl rfl (by rw [← huv1]; go_simp) ⟨hv1.out, ?_⟩
             go_frame
             clear huv1
             refine held_call (i := 7) (dst := some 91) rfl rfl (by kernel_rfl) rfl (by go_simp) (hpl2.out v1 hv1.out) ?_
             rintro e v2 ⟨rfl, hb⟩
             have hv2 : Hid (Below z9.heap.size z9 v2) := hv1.out.trans (hb.mono hv1.out.size)
             have hzr := hbx2.2.1.below hb
             clear hb hbx2
             refine ⟨_, rfl, hv2.out, ?_⟩
             go_frame
             refine held_tk (i := 8) (dst := some 83) (v := .tuple #[.agg #[.int .i64 ct, .int .u16 cid, .int .i64 (plusN cv qv), .string cs], .bool true]) rfl rfl (y_move (.tmp 91) rfl rfl rfl) hv2.out ?_
             go_frame
             refine held_tk (i := 9) (dst := some 92) (v := .agg #[.int .i64 ct, .int .u16 cid, .int .i64 (plusN cv qv), .string cs]) rfl rfl (.inl ⟨rfl, fun u _ => by go_simp⟩) hv2.out ?_
             go_frame
             refine held_tk (i := 10) (dst := some 93) (v := .bool true) rfl rfl (.inl ⟨rfl, fun u _ => by go_simp⟩) hv2.out ?_
             go_frame
             obtain ⟨v9, hst, h9, hg9⟩ := run_storeVar_at (P := Try.prog) (ty := 68) (o := 0) (vs := [.int .i64 ct, .int .u16 cid, .int .i64 (plusN cv qv), .string cs]) hzr (sizeRow _ _ _ _) (Nat.le_refl _) (RowD.one ⟨⟨ct, cid⟩, plusN cv qv, cs⟩)
             have hv9 : Hid (Below z9.heap.size z9 v9) := hv2.out.grown hg9 hv2.out.size (fun k hk => by cases hk; exact halv.out)
             refine held_skip (i := 12) (dst := none) (w' := v9) rfl rfl (by kernel_rfl) rfl (run_store_op rfl rfl rfl hst) hv9.out ?_
             go_frame
             refine held_tk (i := 13) (dst := some 15) (v := .bool true) rfl rfl (.inl ⟨rfl, fun u _ => by go_simp⟩) hv9.out ?_
             go_frame
             refine wpAnyH_done (by kernel_rfl) ?_ _
             clear hst h9 hg9 hv0
             go_wp2
             go_ret
             exact ⟨by rw [he'.out]; rfl, b2.out.trans (hv9.out.mono b2.out.size)⟩
         · obtain ⟨z1, huz1⟩ : ∃ z1, u1.drew.alloc (.cells #[.int .i64 0, .int .u16 0, .int .i64 0, .string ⟨#[]⟩] 68) = z1 := ⟨_, rfl⟩
           have hbx2 := one_rowI (xs := [.int .i64 0, .int .u16 0, .int .i64 0, .string ⟨#[]⟩]) huz1
           have hz1 : Hid (Below u1.heap.size u1 z1) := hz0.out.trans (hbx2.1.mono hz0.out.size)
           have halz : Hid (u1.heap.size ≤ u1.drew.heap.size) := hz0.out.size
           refine value_op (dst := some 12) (w' := z1) (v := .pointer (some ⟨u1.drew.heap.size, 0, none⟩)) rfl rfl rfl (by rw [← huz1]; go_simp) ⟨hz1.out, ?_⟩
           go_frame
           clear huz1
           refine held_call (i := 8) (dst := some 80) rfl rfl (by kernel_rfl) rfl (by go_simp) (hpl.out z1 hz1.out) ?_
           rintro e z2 ⟨rfl, hb⟩
           have hz2 : Hid (Below u1.heap.size u1 z2) := hz1.out.trans (hb.mono hz1.out.size)
           have hzr := hbx2.2.1.below hb
           clear hb hbx2
           refine ⟨_, rfl, hz2.out, ?_⟩
           go_frame
           refine held_tk (i := 9) (dst := some 71) (v := .tuple #[.agg #[.int .i64 dt, .int .u16 di, .int .i64 (plusN dv (-qv)), .string ds], .bool false]) rfl rfl (y_move (.tmp 80) rfl rfl rfl) hz2.out ?_
           go_frame
           refine held_tk (i := 10) (dst := some 81) (v := .agg #[.int .i64 dt, .int .u16 di, .int .i64 (plusN dv (-qv)), .string ds]) rfl rfl (.inl ⟨rfl, fun u _ => by go_simp⟩) hz2.out ?_
           go_frame
           refine held_tk (i := 11) (dst := some 82) (v := .bool false) rfl rfl (.inl ⟨rfl, fun u _ => by go_simp⟩) hz2.out ?_
           go_frame
           obtain ⟨z9, hst, h9, hg9⟩ := run_storeVar_at (P := Try.prog) (ty := 68) (o := 0) (vs := [.int .i64 dt, .int .u16 di, .int .i64 (plusN dv (-qv)), .string ds]) hzr (sizeRow _ _ _ _) (Nat.le_refl _) (RowD.one ⟨⟨dt, di⟩, plusN dv (-qv), ds⟩)
           have hz9 : Hid (Below u1.heap.size u1 z9) := hz2.out.grown hg9 hz2.out.size (fun k hk => by cases hk; exact halz.out)
           refine held_skip (i := 13) (dst := none) (w' := z9) rfl rfl (by kernel_rfl) rfl (run_store_op rfl rfl rfl hst) hz9.out ?_
           go_frame
           refine held_tk (i := 14) (dst := some 13) (v := .bool false) rfl rfl (.inl ⟨rfl, fun u _ => by go_simp⟩) hz9.out ?_
           go_frame
           refine wpAnyH_done (by kernel_rfl) ?_ _
           clear hst h9 hg9 hz0
           have hB9 := Lib.hid hz9.out
           have q2 := Lib.hid (q1.out.below hz9.out)
           have s2 := Lib.hid (s1.out.below hz9.out)
           have b2 := Lib.hid (b1.out.trans (hz9.out.mono b1.out.size))
           have hc2 : Hid (∀ j x, (⟨⟨ct, cid⟩, cv, cs⟩ : RowD).cells[j]? = some x → z9.cell? ((A.add (k * 4)).add j) = some x) := fun j x hj => cell_keeps hz9.out (Nat.le_refl _) (hd1.out j x hj)
           have hpl2 : Hid (∀ u, Below z9.heap.size z9 u → Calls Try.prog 48 #[.agg #[.slice tq tn tc], .agg #[.int .i64 ct, .int .u16 cid, .int .i64 cv, .string cs], .int .i64 qv] u (fun e w' => e = .returned (.tuple #[.agg #[.int .i64 ct, .int .u16 cid, .int .i64 (plusN cv qv), .string cs], .bool true]) ∧ Below u.heap.size u w')) := fun u hu => hpl2'.out u (hB9.out.trans (hu.mono hB9.out.size))
           clear hz9 hz1 hz2 halz
           go_wp2
           refine wp_region_held (S := fun u => Below z9.heap.size z9 u) (by kernel_rfl) ?_
           change wpAnyH _ _ _ _ _ _ _ _ (World.drew z9)
           have hv0 : Hid (Below z9.heap.size z9 z9.drew) := below_drew z9
           refine held_tk (i := 0) (dst := some 84) (v := .agg #[.slice tq tn tc]) rfl rfl (.inl ⟨rfl, fun u hu => by have y0 : u.cell? ⟨w.heap.size + 1, 0, none⟩ = some (.slice tq tn tc) := (s2.out.below hu).cell 0; go_simp⟩) hv0.out ?_
           go_frame
           refine held_tk (i := 1) (dst := some 85) (v := .slice (some A) ln lc) rfl rfl (y_move (.tmp 2) rfl rfl rfl) hv0.out ?_
           go_frame
           refine held_tk (i := 2) (dst := some 86) (v := .int .i64 (k : Int)) rfl rfl (y_move (.tmp 11) rfl rfl rfl) hv0.out ?_
           go_frame
           refine held_tk (i := 3) (dst := some 87) (v := .pointer (some (A.add (k * 4)))) rfl rfl (.inl ⟨rfl, fun u _ => by go_simp⟩) hv0.out ?_
           go_frame
           refine held_tk (i := 4) (dst := some 88) (v := .agg #[.int .i64 ct, .int .u16 cid, .int .i64 cv, .string cs]) rfl rfl (y_load_agg 68 (.tmp 87) rfl rfl rfl (fun u hu => run_loadVar_at Try.underlying68 rfl (sizeRow ct cid cv cs) _ (fun j x hj => cell_keeps hu (Nat.le_refl _) (hc2.out j x hj)))) hv0.out ?_
           go_frame
           refine held_tk (i := 5) (dst := some 89) (v := .pointer (some ⟨w.heap.size, 5, none⟩)) rfl rfl (.inl ⟨rfl, fun u _ => by go_simp⟩) hv0.out ?_
           go_frame
           refine held_tk (i := 6) (dst := some 90) (v := .int .i64 qv) rfl rfl (.inl ⟨rfl, fun u hu => by have y0 : u.cell? ⟨w.heap.size, 5, none⟩ = some (.int .i64 qv) := (q2.out.below hu).cell 5; go_simp⟩) hv0.out ?_
           go_frame
           refine any_two (i := 7) (j := 11) (by kernel_rfl) ?_ ?_
           · refine call_op (dst := some 91) rfl rfl rfl (by go_simp) (hpl2.out z9.drew hv0.out) ?_
             rintro e v1 ⟨rfl, hb⟩
             have hv1 : Hid (Below z9.heap.size z9 v1) := hv0.out.trans (hb.mono hv0.out.size)
             clear hb
             refine ⟨_, rfl, hv1.out, ?_⟩
             go_frame
             refine held_tk (i := 8) (dst := some 83) (v := .tuple #[.agg #[.int .i64 ct, .int .u16 cid, .int .i64 (plusN cv qv), .string cs], .bool true]) rfl rfl (y_move (.tmp 91) rfl rfl rfl) hv1.out ?_
             go_frame
             refine held_tk (i := 9) (dst := some 92) (v := .agg #[.int .i64 ct, .int .u16 cid, .int .i64 (plusN cv qv), .string cs]) rfl rfl (.inl ⟨rfl, fun u _ => by go_simp⟩) hv1.out ?_
             go_frame
             refine held_tk (i := 10) (dst := some 93) (v := .bool true) rfl rfl (.inl ⟨rfl, fun u _ => by go_simp⟩) hv1.out ?_
             go_frame
             obtain ⟨v2, huv2⟩ : ∃ v2, v1.alloc (.cells #[.int .i64 0, .int .u16 0, .int .i64 0, .string ⟨#[]⟩] 68) = v2 := ⟨_, rfl⟩
             have hbx2 := one_rowI (xs := [.int .i64 0, .int .u16 0, .int .i64 0, .string ⟨#[]⟩]) huv2
             have hv2 : Hid (Below z9.heap.size z9 v2) := hv1.out.trans (hbx2.1.mono hv1.out.size)
             have halv : Hid (z9.heap.size ≤ v1.heap.size) := hv1.out.size
             refine held_value (i := 11) (dst := some 14) (w' := v2) (v := .pointer (some ⟨v1.heap.size, 0, none⟩)) rfl rfl (by kernel_rfl) rfl (by rw [← huv2]; go_simp) hv2.out ?_
             go_frame
             clear huv2
             obtain ⟨v9, hst, h9, hg9⟩ := run_storeVar_at (P := Try.prog) (ty := 68) (o := 0) (vs := [.int .i64 ct, .int .u16 cid, .int .i64 (plusN cv qv), .string cs]) hbx2.2.1 (sizeRow _ _ _ _) (Nat.le_refl _) (RowD.one ⟨⟨ct, cid⟩, plusN cv qv, cs⟩)
             have hv9 : Hid (Below z9.heap.size z9 v9) := hv2.out.grown hg9 hv2.out.size (fun k hk => by cases hk; exact halv.out)
             refine held_skip (i := 12) (dst := none) (w' := v9) rfl rfl (by kernel_rfl) rfl (run_store_op rfl rfl rfl hst) hv9.out ?_
             go_frame
             refine held_tk (i := 13) (dst := some 15) (v := .bool true) rfl rfl (.inl ⟨rfl, fun u _ => by go_simp⟩) hv9.out ?_
             go_frame
             refine wpAnyH_done (by kernel_rfl) ?_ _
             clear hst h9 hg9 hv0
             go_wp2
             go_ret
             exact ⟨by rw [he'.out]; rfl, b2.out.trans (hv9.out.mono b2.out.size)⟩
           · obtain ⟨v1, huv1⟩ : ∃ v1, z9.drew.alloc (.cells #[.int .i64 0, .int .u16 0, .int .i64 0, .string ⟨#[]⟩] 68) = v1 := ⟨_, rfl⟩
             have hbx2 := one_rowI (xs := [.int .i64 0, .int .u16 0, .int .i64 0, .string ⟨#[]⟩]) huv1
             have hv1 : Hid (Below z9.heap.size z9 v1) := hv0.out.trans (hbx2.1.mono hv0.out.size)
             have halv : Hid (z9.heap.size ≤ z9.drew.heap.size) := hv0.out.size
             refine value_op (dst := some 14) (w' := v1) (v := .pointer (some ⟨z9.drew.heap.size, 0, none⟩)) rfl rfl rfl (by rw [← huv1]; go_simp) ⟨hv1.out, ?_⟩
             go_frame
             clear huv1
             refine held_call (i := 7) (dst := some 91) rfl rfl (by kernel_rfl) rfl (by go_simp) (hpl2.out v1 hv1.out) ?_
             rintro e v2 ⟨rfl, hb⟩
             have hv2 : Hid (Below z9.heap.size z9 v2) := hv1.out.trans (hb.mono hv1.out.size)
             have hzr := hbx2.2.1.below hb
             clear hb hbx2
             refine ⟨_, rfl, hv2.out, ?_⟩
             go_frame
             refine held_tk (i := 8) (dst := some 83) (v := .tuple #[.agg #[.int .i64 ct, .int .u16 cid, .int .i64 (plusN cv qv), .string cs], .bool true]) rfl rfl (y_move (.tmp 91) rfl rfl rfl) hv2.out ?_
             go_frame
             refine held_tk (i := 9) (dst := some 92) (v := .agg #[.int .i64 ct, .int .u16 cid, .int .i64 (plusN cv qv), .string cs]) rfl rfl (.inl ⟨rfl, fun u _ => by go_simp⟩) hv2.out ?_
             go_frame
             refine held_tk (i := 10) (dst := some 93) (v := .bool true) rfl rfl (.inl ⟨rfl, fun u _ => by go_simp⟩) hv2.out ?_
             go_frame
             obtain ⟨v9, hst, h9, hg9⟩ := run_storeVar_at (P := Try.prog) (ty := 68) (o := 0) (vs := [.int .i64 ct, .int .u16 cid, .int .i64 (plusN cv qv), .string cs]) hzr (sizeRow _ _ _ _) (Nat.le_refl _) (RowD.one ⟨⟨ct, cid⟩, plusN cv qv, cs⟩)
             have hv9 : Hid (Below z9.heap.size z9 v9) := hv2.out.grown hg9 hv2.out.size (fun k hk => by cases hk; exact halv.out)
             refine held_skip (i := 12) (dst := none) (w' := v9) rfl rfl (by kernel_rfl) rfl (run_store_op rfl rfl rfl hst) hv9.out ?_
             go_frame
             refine held_tk (i := 13) (dst := some 15) (v := .bool true) rfl rfl (.inl ⟨rfl, fun u _ => by go_simp⟩) hv9.out ?_
             go_frame
             refine wpAnyH_done (by kernel_rfl) ?_ _
             clear hst h9 hg9 hv0
             go_wp2
             go_ret
             exact ⟨by rw [he'.out]; rfl, b2.out.trans (hv9.out.mono b2.out.size)⟩
       | false =>
         go_wp2
         refine wp_region_held (S := fun u => Below u1.heap.size u1 u) (by kernel_rfl) ?_
         change wpAnyH _ _ _ _ _ _ _ _ (World.drew u1)
         have hz0 : Hid (Below u1.heap.size u1 u1.drew) := below_drew u1
         refine held_tk (i := 0) (dst := some 72) (v := .agg #[.slice tq tn tc]) rfl rfl (.inl ⟨rfl, fun u hu => by have y0 : u.cell? ⟨w.heap.size + 1, 0, none⟩ = some (.slice tq tn tc) := (s1.out.below hu).cell 0; go_simp⟩) hz0.out ?_
         go_frame
         refine held_tk (i := 1) (dst := some 73) (v := .slice (some A) ln lc) rfl rfl (y_move (.tmp 2) rfl rfl rfl) hz0.out ?_
         go_frame
         refine held_tk (i := 2) (dst := some 74) (v := .int .i64 (i : Int)) rfl rfl (y_move (.tmp 3) rfl rfl rfl) hz0.out ?_
         go_frame
         refine held_tk (i := 3) (dst := some 75) (v := .pointer (some (A.add (i * 4)))) rfl rfl (.inl ⟨rfl, fun u _ => by go_simp⟩) hz0.out ?_
         go_frame
         refine held_tk (i := 4) (dst := some 76) (v := .agg #[.int .i64 dt, .int .u16 di, .int .i64 dv, .string ds]) rfl rfl (y_load_agg 68 (.tmp 75) rfl rfl rfl (fun u hu => run_loadVar_at Try.underlying68 rfl (sizeRow dt di dv ds) _ (fun j x hj => cell_keeps hu (Nat.le_refl _) (hc1.out j x hj)))) hz0.out ?_
         go_frame
         refine held_tk (i := 5) (dst := some 77) (v := .pointer (some ⟨w.heap.size, 5, none⟩)) rfl rfl (.inl ⟨rfl, fun u _ => by go_simp⟩) hz0.out ?_
         go_frame
         refine held_tk (i := 6) (dst := some 78) (v := .int .i64 qv) rfl rfl (.inl ⟨rfl, fun u hu => by have y0 : u.cell? ⟨w.heap.size, 5, none⟩ = some (.int .i64 qv) := (q1.out.below hu).cell 5; go_simp⟩) hz0.out ?_
         go_frame
         refine held_tk (i := 7) (dst := some 79) (v := .int .i64 (-qv)) rfl rfl (.inl ⟨rfl, fun u _ => by have hw := hneg.out; have hw2 := hneg2.out; first | (go_simp; done) | (go_simp; rw [hw]; done) | (go_simp; rw [hw2]; done)⟩) hz0.out ?_
         go_frame
         refine any_two (i := 8) (j := 12) (by kernel_rfl) ?_ ?_
         · refine call_op (dst := some 80) rfl rfl rfl (by go_simp) (hpl.out u1.drew hz0.out) ?_
           rintro e z1 ⟨rfl, hb⟩
           have hz1 : Hid (Below u1.heap.size u1 z1) := hz0.out.trans (hb.mono hz0.out.size)
           clear hb
           refine ⟨_, rfl, hz1.out, ?_⟩
           go_frame
           refine held_tk (i := 9) (dst := some 71) (v := .tuple #[.agg #[.int .i64 dt, .int .u16 di, .int .i64 (plusN dv (-qv)), .string ds], .bool false]) rfl rfl (y_move (.tmp 80) rfl rfl rfl) hz1.out ?_
           go_frame
           refine held_tk (i := 10) (dst := some 81) (v := .agg #[.int .i64 dt, .int .u16 di, .int .i64 (plusN dv (-qv)), .string ds]) rfl rfl (.inl ⟨rfl, fun u _ => by go_simp⟩) hz1.out ?_
           go_frame
           refine held_tk (i := 11) (dst := some 82) (v := .bool false) rfl rfl (.inl ⟨rfl, fun u _ => by go_simp⟩) hz1.out ?_
           go_frame
           obtain ⟨z2, huz2⟩ : ∃ z2, z1.alloc (.cells #[.int .i64 0, .int .u16 0, .int .i64 0, .string ⟨#[]⟩] 68) = z2 := ⟨_, rfl⟩
           have hbx2 := one_rowI (xs := [.int .i64 0, .int .u16 0, .int .i64 0, .string ⟨#[]⟩]) huz2
           have hz2 : Hid (Below u1.heap.size u1 z2) := hz1.out.trans (hbx2.1.mono hz1.out.size)
           have halz : Hid (u1.heap.size ≤ z1.heap.size) := hz1.out.size
           refine held_value (i := 12) (dst := some 12) (w' := z2) (v := .pointer (some ⟨z1.heap.size, 0, none⟩)) rfl rfl (by kernel_rfl) rfl (by rw [← huz2]; go_simp) hz2.out ?_
           go_frame
           clear huz2
           obtain ⟨z9, hst, h9, hg9⟩ := run_storeVar_at (P := Try.prog) (ty := 68) (o := 0) (vs := [.int .i64 dt, .int .u16 di, .int .i64 (plusN dv (-qv)), .string ds]) hbx2.2.1 (sizeRow _ _ _ _) (Nat.le_refl _) (RowD.one ⟨⟨dt, di⟩, plusN dv (-qv), ds⟩)
           have hz9 : Hid (Below u1.heap.size u1 z9) := hz2.out.grown hg9 hz2.out.size (fun k hk => by cases hk; exact halz.out)
           refine held_skip (i := 13) (dst := none) (w' := z9) rfl rfl (by kernel_rfl) rfl (run_store_op rfl rfl rfl hst) hz9.out ?_
           go_frame
           refine held_tk (i := 14) (dst := some 13) (v := .bool false) rfl rfl (.inl ⟨rfl, fun u _ => by go_simp⟩) hz9.out ?_
           go_frame
           refine wpAnyH_done (by kernel_rfl) ?_ _
           clear hst h9 hg9 hz0
           have hB9 := Lib.hid hz9.out
           have q2 := Lib.hid (q1.out.below hz9.out)
           have s2 := Lib.hid (s1.out.below hz9.out)
           have b2 := Lib.hid (b1.out.trans (hz9.out.mono b1.out.size))
           have hc2 : Hid (∀ j x, (⟨⟨ct, cid⟩, cv, cs⟩ : RowD).cells[j]? = some x → z9.cell? ((A.add (k * 4)).add j) = some x) := fun j x hj => cell_keeps hz9.out (Nat.le_refl _) (hd1.out j x hj)
           have hpl2 : Hid (∀ u, Below z9.heap.size z9 u → Calls Try.prog 48 #[.agg #[.slice tq tn tc], .agg #[.int .i64 ct, .int .u16 cid, .int .i64 cv, .string cs], .int .i64 qv] u (fun e w' => e = .returned (.tuple #[.agg #[.int .i64 ct, .int .u16 cid, .int .i64 (plusN cv qv), .string cs], .bool false]) ∧ Below u.heap.size u w')) := fun u hu => hpl2'.out u (hB9.out.trans (hu.mono hB9.out.size))
           clear hz9 hz1 hz2 halz
           go_wp2
           refine wp_region_held (S := fun u => Below z9.heap.size z9 u) (by kernel_rfl) ?_
           change wpAnyH _ _ _ _ _ _ _ _ (World.drew z9)
           have hv0 : Hid (Below z9.heap.size z9 z9.drew) := below_drew z9
           refine held_tk (i := 0) (dst := some 84) (v := .agg #[.slice tq tn tc]) rfl rfl (.inl ⟨rfl, fun u hu => by have y0 : u.cell? ⟨w.heap.size + 1, 0, none⟩ = some (.slice tq tn tc) := (s2.out.below hu).cell 0; go_simp⟩) hv0.out ?_
           go_frame
           refine held_tk (i := 1) (dst := some 85) (v := .slice (some A) ln lc) rfl rfl (y_move (.tmp 2) rfl rfl rfl) hv0.out ?_
           go_frame
           refine held_tk (i := 2) (dst := some 86) (v := .int .i64 (k : Int)) rfl rfl (y_move (.tmp 11) rfl rfl rfl) hv0.out ?_
           go_frame
           refine held_tk (i := 3) (dst := some 87) (v := .pointer (some (A.add (k * 4)))) rfl rfl (.inl ⟨rfl, fun u _ => by go_simp⟩) hv0.out ?_
           go_frame
           refine held_tk (i := 4) (dst := some 88) (v := .agg #[.int .i64 ct, .int .u16 cid, .int .i64 cv, .string cs]) rfl rfl (y_load_agg 68 (.tmp 87) rfl rfl rfl (fun u hu => run_loadVar_at Try.underlying68 rfl (sizeRow ct cid cv cs) _ (fun j x hj => cell_keeps hu (Nat.le_refl _) (hc2.out j x hj)))) hv0.out ?_
           go_frame
           refine held_tk (i := 5) (dst := some 89) (v := .pointer (some ⟨w.heap.size, 5, none⟩)) rfl rfl (.inl ⟨rfl, fun u _ => by go_simp⟩) hv0.out ?_
           go_frame
           refine held_tk (i := 6) (dst := some 90) (v := .int .i64 qv) rfl rfl (.inl ⟨rfl, fun u hu => by have y0 : u.cell? ⟨w.heap.size, 5, none⟩ = some (.int .i64 qv) := (q2.out.below hu).cell 5; go_simp⟩) hv0.out ?_
           go_frame
           refine any_two (i := 7) (j := 11) (by kernel_rfl) ?_ ?_
           · refine call_op (dst := some 91) rfl rfl rfl (by go_simp) (hpl2.out z9.drew hv0.out) ?_
             rintro e v1 ⟨rfl, hb⟩
             have hv1 : Hid (Below z9.heap.size z9 v1) := hv0.out.trans (hb.mono hv0.out.size)
             clear hb
             refine ⟨_, rfl, hv1.out, ?_⟩
             go_frame
             refine held_tk (i := 8) (dst := some 83) (v := .tuple #[.agg #[.int .i64 ct, .int .u16 cid, .int .i64 (plusN cv qv), .string cs], .bool false]) rfl rfl (y_move (.tmp 91) rfl rfl rfl) hv1.out ?_
             go_frame
             refine held_tk (i := 9) (dst := some 92) (v := .agg #[.int .i64 ct, .int .u16 cid, .int .i64 (plusN cv qv), .string cs]) rfl rfl (.inl ⟨rfl, fun u _ => by go_simp⟩) hv1.out ?_
             go_frame
             refine held_tk (i := 10) (dst := some 93) (v := .bool false) rfl rfl (.inl ⟨rfl, fun u _ => by go_simp⟩) hv1.out ?_
             go_frame
             obtain ⟨v2, huv2⟩ : ∃ v2, v1.alloc (.cells #[.int .i64 0, .int .u16 0, .int .i64 0, .string ⟨#[]⟩] 68) = v2 := ⟨_, rfl⟩
             have hbx2 := one_rowI (xs := [.int .i64 0, .int .u16 0, .int .i64 0, .string ⟨#[]⟩]) huv2
             have hv2 : Hid (Below z9.heap.size z9 v2) := hv1.out.trans (hbx2.1.mono hv1.out.size)
             have halv : Hid (z9.heap.size ≤ v1.heap.size) := hv1.out.size
             refine held_value (i := 11) (dst := some 14) (w' := v2) (v := .pointer (some ⟨v1.heap.size, 0, none⟩)) rfl rfl (by kernel_rfl) rfl (by rw [← huv2]; go_simp) hv2.out ?_
             go_frame
             clear huv2
             obtain ⟨v9, hst, h9, hg9⟩ := run_storeVar_at (P := Try.prog) (ty := 68) (o := 0) (vs := [.int .i64 ct, .int .u16 cid, .int .i64 (plusN cv qv), .string cs]) hbx2.2.1 (sizeRow _ _ _ _) (Nat.le_refl _) (RowD.one ⟨⟨ct, cid⟩, plusN cv qv, cs⟩)
             have hv9 : Hid (Below z9.heap.size z9 v9) := hv2.out.grown hg9 hv2.out.size (fun k hk => by cases hk; exact halv.out)
             refine held_skip (i := 12) (dst := none) (w' := v9) rfl rfl (by kernel_rfl) rfl (run_store_op rfl rfl rfl hst) hv9.out ?_
             go_frame
             refine held_tk (i := 13) (dst := some 15) (v := .bool false) rfl rfl (.inl ⟨rfl, fun u _ => by go_simp⟩) hv9.out ?_
             go_frame
             refine wpAnyH_done (by kernel_rfl) ?_ _
             clear hst h9 hg9 hv0
             go_wp2
             go_ret
             exact ⟨by rw [he'.out]; rfl, b2.out.trans (hv9.out.mono b2.out.size)⟩
           · obtain ⟨v1, huv1⟩ : ∃ v1, z9.drew.alloc (.cells #[.int .i64 0, .int .u16 0, .int .i64 0, .string ⟨#[]⟩] 68) = v1 := ⟨_, rfl⟩
             have hbx2 := one_rowI (xs := [.int .i64 0, .int .u16 0, .int .i64 0, .string ⟨#[]⟩]) huv1
             have hv1 : Hid (Below z9.heap.size z9 v1) := hv0.out.trans (hbx2.1.mono hv0.out.size)
             have halv : Hid (z9.heap.size ≤ z9.drew.heap.size) := hv0.out.size
             refine value_op (dst := some 14) (w' := v1) (v := .pointer (some ⟨z9.drew.heap.size, 0, none⟩)) rfl rfl rfl (by rw [← huv1]; go_simp) ⟨hv1.out, ?_⟩
             go_frame
             clear huv1
             refine held_call (i := 7) (dst := some 91) rfl rfl (by kernel_rfl) rfl (by go_simp) (hpl2.out v1 hv1.out) ?_
             rintro e v2 ⟨rfl, hb⟩
             have hv2 : Hid (Below z9.heap.size z9 v2) := hv1.out.trans (hb.mono hv1.out.size)
             have hzr := hbx2.2.1.below hb
             clear hb hbx2
             refine ⟨_, rfl, hv2.out, ?_⟩
             go_frame
             refine held_tk (i := 8) (dst := some 83) (v := .tuple #[.agg #[.int .i64 ct, .int .u16 cid, .int .i64 (plusN cv qv), .string cs], .bool false]) rfl rfl (y_move (.tmp 91) rfl rfl rfl) hv2.out ?_
             go_frame
             refine held_tk (i := 9) (dst := some 92) (v := .agg #[.int .i64 ct, .int .u16 cid, .int .i64 (plusN cv qv), .string cs]) rfl rfl (.inl ⟨rfl, fun u _ => by go_simp⟩) hv2.out ?_
             go_frame
             refine held_tk (i := 10) (dst := some 93) (v := .bool false) rfl rfl (.inl ⟨rfl, fun u _ => by go_simp⟩) hv2.out ?_
             go_frame
             obtain ⟨v9, hst, h9, hg9⟩ := run_storeVar_at (P := Try.prog) (ty := 68) (o := 0) (vs := [.int .i64 ct, .int .u16 cid, .int .i64 (plusN cv qv), .string cs]) hzr (sizeRow _ _ _ _) (Nat.le_refl _) (RowD.one ⟨⟨ct, cid⟩, plusN cv qv, cs⟩)
             have hv9 : Hid (Below z9.heap.size z9 v9) := hv2.out.grown hg9 hv2.out.size (fun k hk => by cases hk; exact halv.out)
             refine held_skip (i := 12) (dst := none) (w' := v9) rfl rfl (by kernel_rfl) rfl (run_store_op rfl rfl rfl hst) hv9.out ?_
             go_frame
             refine held_tk (i := 13) (dst := some 15) (v := .bool false) rfl rfl (.inl ⟨rfl, fun u _ => by go_simp⟩) hv9.out ?_
             go_frame
             refine wpAnyH_done (by kernel_rfl) ?_ _
             clear hst h9 hg9 hv0
             go_wp2
             go_ret
             exact ⟨by rw [he'.out]; rfl, b2.out.trans (hv9.out.mono b2.out.size)⟩
         · obtain ⟨z1, huz1⟩ : ∃ z1, u1.drew.alloc (.cells #[.int .i64 0, .int .u16 0, .int .i64 0, .string ⟨#[]⟩] 68) = z1 := ⟨_, rfl⟩
           have hbx2 := one_rowI (xs := [.int .i64 0, .int .u16 0, .int .i64 0, .string ⟨#[]⟩]) huz1
           have hz1 : Hid (Below u1.heap.size u1 z1) := hz0.out.trans (hbx2.1.mono hz0.out.size)
           have halz : Hid (u1.heap.size ≤ u1.drew.heap.size) := hz0.out.size
           refine value_op (dst := some 12) (w' := z1) (v := .pointer (some ⟨u1.drew.heap.size, 0, none⟩)) rfl rfl rfl (by rw [← huz1]; go_simp) ⟨hz1.out, ?_⟩
           go_frame
           clear huz1
           refine held_call (i := 8) (dst := some 80) rfl rfl (by kernel_rfl) rfl (by go_simp) (hpl.out z1 hz1.out) ?_
           rintro e z2 ⟨rfl, hb⟩
           have hz2 : Hid (Below u1.heap.size u1 z2) := hz1.out.trans (hb.mono hz1.out.size)
           have hzr := hbx2.2.1.below hb
           clear hb hbx2
           refine ⟨_, rfl, hz2.out, ?_⟩
           go_frame
           refine held_tk (i := 9) (dst := some 71) (v := .tuple #[.agg #[.int .i64 dt, .int .u16 di, .int .i64 (plusN dv (-qv)), .string ds], .bool false]) rfl rfl (y_move (.tmp 80) rfl rfl rfl) hz2.out ?_
           go_frame
           refine held_tk (i := 10) (dst := some 81) (v := .agg #[.int .i64 dt, .int .u16 di, .int .i64 (plusN dv (-qv)), .string ds]) rfl rfl (.inl ⟨rfl, fun u _ => by go_simp⟩) hz2.out ?_
           go_frame
           refine held_tk (i := 11) (dst := some 82) (v := .bool false) rfl rfl (.inl ⟨rfl, fun u _ => by go_simp⟩) hz2.out ?_
           go_frame
           obtain ⟨z9, hst, h9, hg9⟩ := run_storeVar_at (P := Try.prog) (ty := 68) (o := 0) (vs := [.int .i64 dt, .int .u16 di, .int .i64 (plusN dv (-qv)), .string ds]) hzr (sizeRow _ _ _ _) (Nat.le_refl _) (RowD.one ⟨⟨dt, di⟩, plusN dv (-qv), ds⟩)
           have hz9 : Hid (Below u1.heap.size u1 z9) := hz2.out.grown hg9 hz2.out.size (fun k hk => by cases hk; exact halz.out)
           refine held_skip (i := 13) (dst := none) (w' := z9) rfl rfl (by kernel_rfl) rfl (run_store_op rfl rfl rfl hst) hz9.out ?_
           go_frame
           refine held_tk (i := 14) (dst := some 13) (v := .bool false) rfl rfl (.inl ⟨rfl, fun u _ => by go_simp⟩) hz9.out ?_
           go_frame
           refine wpAnyH_done (by kernel_rfl) ?_ _
           clear hst h9 hg9 hz0
           have hB9 := Lib.hid hz9.out
           have q2 := Lib.hid (q1.out.below hz9.out)
           have s2 := Lib.hid (s1.out.below hz9.out)
           have b2 := Lib.hid (b1.out.trans (hz9.out.mono b1.out.size))
           have hc2 : Hid (∀ j x, (⟨⟨ct, cid⟩, cv, cs⟩ : RowD).cells[j]? = some x → z9.cell? ((A.add (k * 4)).add j) = some x) := fun j x hj => cell_keeps hz9.out (Nat.le_refl _) (hd1.out j x hj)
           have hpl2 : Hid (∀ u, Below z9.heap.size z9 u → Calls Try.prog 48 #[.agg #[.slice tq tn tc], .agg #[.int .i64 ct, .int .u16 cid, .int .i64 cv, .string cs], .int .i64 qv] u (fun e w' => e = .returned (.tuple #[.agg #[.int .i64 ct, .int .u16 cid, .int .i64 (plusN cv qv), .string cs], .bool false]) ∧ Below u.heap.size u w')) := fun u hu => hpl2'.out u (hB9.out.trans (hu.mono hB9.out.size))
           clear hz9 hz1 hz2 halz
           go_wp2
           refine wp_region_held (S := fun u => Below z9.heap.size z9 u) (by kernel_rfl) ?_
           change wpAnyH _ _ _ _ _ _ _ _ (World.drew z9)
           have hv0 : Hid (Below z9.heap.size z9 z9.drew) := below_drew z9
           refine held_tk (i := 0) (dst := some 84) (v := .agg #[.slice tq tn tc]) rfl rfl (.inl ⟨rfl, fun u hu => by have y0 : u.cell? ⟨w.heap.size + 1, 0, none⟩ = some (.slice tq tn tc) := (s2.out.below hu).cell 0; go_simp⟩) hv0.out ?_
           go_frame
           refine held_tk (i := 1) (dst := some 85) (v := .slice (some A) ln lc) rfl rfl (y_move (.tmp 2) rfl rfl rfl) hv0.out ?_
           go_frame
           refine held_tk (i := 2) (dst := some 86) (v := .int .i64 (k : Int)) rfl rfl (y_move (.tmp 11) rfl rfl rfl) hv0.out ?_
           go_frame
           refine held_tk (i := 3) (dst := some 87) (v := .pointer (some (A.add (k * 4)))) rfl rfl (.inl ⟨rfl, fun u _ => by go_simp⟩) hv0.out ?_
           go_frame
           refine held_tk (i := 4) (dst := some 88) (v := .agg #[.int .i64 ct, .int .u16 cid, .int .i64 cv, .string cs]) rfl rfl (y_load_agg 68 (.tmp 87) rfl rfl rfl (fun u hu => run_loadVar_at Try.underlying68 rfl (sizeRow ct cid cv cs) _ (fun j x hj => cell_keeps hu (Nat.le_refl _) (hc2.out j x hj)))) hv0.out ?_
           go_frame
           refine held_tk (i := 5) (dst := some 89) (v := .pointer (some ⟨w.heap.size, 5, none⟩)) rfl rfl (.inl ⟨rfl, fun u _ => by go_simp⟩) hv0.out ?_
           go_frame
           refine held_tk (i := 6) (dst := some 90) (v := .int .i64 qv) rfl rfl (.inl ⟨rfl, fun u hu => by have y0 : u.cell? ⟨w.heap.size, 5, none⟩ = some (.int .i64 qv) := (q2.out.below hu).cell 5; go_simp⟩) hv0.out ?_
           go_frame
           refine any_two (i := 7) (j := 11) (by kernel_rfl) ?_ ?_
           · refine call_op (dst := some 91) rfl rfl rfl (by go_simp) (hpl2.out z9.drew hv0.out) ?_
             rintro e v1 ⟨rfl, hb⟩
             have hv1 : Hid (Below z9.heap.size z9 v1) := hv0.out.trans (hb.mono hv0.out.size)
             clear hb
             refine ⟨_, rfl, hv1.out, ?_⟩
             go_frame
             refine held_tk (i := 8) (dst := some 83) (v := .tuple #[.agg #[.int .i64 ct, .int .u16 cid, .int .i64 (plusN cv qv), .string cs], .bool false]) rfl rfl (y_move (.tmp 91) rfl rfl rfl) hv1.out ?_
             go_frame
             refine held_tk (i := 9) (dst := some 92) (v := .agg #[.int .i64 ct, .int .u16 cid, .int .i64 (plusN cv qv), .string cs]) rfl rfl (.inl ⟨rfl, fun u _ => by go_simp⟩) hv1.out ?_
             go_frame
             refine held_tk (i := 10) (dst := some 93) (v := .bool false) rfl rfl (.inl ⟨rfl, fun u _ => by go_simp⟩) hv1.out ?_
             go_frame
             obtain ⟨v2, huv2⟩ : ∃ v2, v1.alloc (.cells #[.int .i64 0, .int .u16 0, .int .i64 0, .string ⟨#[]⟩] 68) = v2 := ⟨_, rfl⟩
             have hbx2 := one_rowI (xs := [.int .i64 0, .int .u16 0, .int .i64 0, .string ⟨#[]⟩]) huv2
             have hv2 : Hid (Below z9.heap.size z9 v2) := hv1.out.trans (hbx2.1.mono hv1.out.size)
             have halv : Hid (z9.heap.size ≤ v1.heap.size) := hv1.out.size
             refine held_value (i := 11) (dst := some 14) (w' := v2) (v := .pointer (some ⟨v1.heap.size, 0, none⟩)) rfl rfl (by kernel_rfl) rfl (by rw [← huv2]; go_simp) hv2.out ?_
             go_frame
             clear huv2
             obtain ⟨v9, hst, h9, hg9⟩ := run_storeVar_at (P := Try.prog) (ty := 68) (o := 0) (vs := [.int .i64 ct, .int .u16 cid, .int .i64 (plusN cv qv), .string cs]) hbx2.2.1 (sizeRow _ _ _ _) (Nat.le_refl _) (RowD.one ⟨⟨ct, cid⟩, plusN cv qv, cs⟩)
             have hv9 : Hid (Below z9.heap.size z9 v9) := hv2.out.grown hg9 hv2.out.size (fun k hk => by cases hk; exact halv.out)
             refine held_skip (i := 12) (dst := none) (w' := v9) rfl rfl (by kernel_rfl) rfl (run_store_op rfl rfl rfl hst) hv9.out ?_
             go_frame
             refine held_tk (i := 13) (dst := some 15) (v := .bool false) rfl rfl (.inl ⟨rfl, fun u _ => by go_simp⟩) hv9.out ?_
             go_frame
             refine wpAnyH_done (by kernel_rfl) ?_ _
             clear hst h9 hg9 hv0
             go_wp2
             go_ret
             exact ⟨by rw [he'.out]; rfl, b2.out.trans (hv9.out.mono b2.out.size)⟩
           · obtain ⟨v1, huv1⟩ : ∃ v1, z9.drew.alloc (.cells #[.int .i64 0, .int .u16 0, .int .i64 0, .string ⟨#[]⟩] 68) = v1 := ⟨_, rfl⟩
             have hbx2 := one_rowI (xs := [.int .i64 0, .int .u16 0, .int .i64 0, .string ⟨#[]⟩]) huv1
             have hv1 : Hid (Below z9.heap.size z9 v1) := hv0.out.trans (hbx2.1.mono hv0.out.size)
             have halv : Hid (z9.heap.size ≤ z9.drew.heap.size) := hv0.out.size
             refine value_op (dst := some 14) (w' := v1) (v := .pointer (some ⟨z9.drew.heap.size, 0, none⟩)) rfl rfl rfl (by rw [← huv1]; go_simp) ⟨hv1.out, ?_⟩
             go_frame
             clear huv1
             refine held_call (i := 7) (dst := some 91) rfl rfl (by kernel_rfl) rfl (by go_simp) (hpl2.out v1 hv1.out) ?_
             rintro e v2 ⟨rfl, hb⟩
             have hv2 : Hid (Below z9.heap.size z9 v2) := hv1.out.trans (hb.mono hv1.out.size)
             have hzr := hbx2.2.1.below hb
             clear hb hbx2
             refine ⟨_, rfl, hv2.out, ?_⟩
             go_frame
             refine held_tk (i := 8) (dst := some 83) (v := .tuple #[.agg #[.int .i64 ct, .int .u16 cid, .int .i64 (plusN cv qv), .string cs], .bool false]) rfl rfl (y_move (.tmp 91) rfl rfl rfl) hv2.out ?_
             go_frame
             refine held_tk (i := 9) (dst := some 92) (v := .agg #[.int .i64 ct, .int .u16 cid, .int .i64 (plusN cv qv), .string cs]) rfl rfl (.inl ⟨rfl, fun u _ => by go_simp⟩) hv2.out ?_
             go_frame
             refine held_tk (i := 10) (dst := some 93) (v := .bool false) rfl rfl (.inl ⟨rfl, fun u _ => by go_simp⟩) hv2.out ?_
             go_frame
             obtain ⟨v9, hst, h9, hg9⟩ := run_storeVar_at (P := Try.prog) (ty := 68) (o := 0) (vs := [.int .i64 ct, .int .u16 cid, .int .i64 (plusN cv qv), .string cs]) hzr (sizeRow _ _ _ _) (Nat.le_refl _) (RowD.one ⟨⟨ct, cid⟩, plusN cv qv, cs⟩)
             have hv9 : Hid (Below z9.heap.size z9 v9) := hv2.out.grown hg9 hv2.out.size (fun k hk => by cases hk; exact halv.out)
             refine held_skip (i := 12) (dst := none) (w' := v9) rfl rfl (by kernel_rfl) rfl (run_store_op rfl rfl rfl hst) hv9.out ?_
             go_frame
             refine held_tk (i := 13) (dst := some 15) (v := .bool false) rfl rfl (.inl ⟨rfl, fun u _ => by go_simp⟩) hv9.out ?_
             go_frame
             refine wpAnyH_done (by kernel_rfl) ?_ _
             clear hst h9 hg9 hv0
             go_wp2
             go_ret
             exact ⟨by rw [he'.out]; rfl, b2.out.trans (hv9.out.mono b2.out.size)⟩
theorem refused_any (qk kt ki tt ti qv : Int) (qs : ByteArray) (qn : Int) (tq : Option Addr) (tn tc : Nat) (bs : List BdD) (lq : Option Addr) (ln lc : Nat) (l : List RowD) (w : World) (h : SchOn w tq tn tc bs) (hr : RowsOn w lq ln lc l) (hc : chkList bs l = 0) (hq : ReqOk ⟨qk, ⟨kt, ki⟩, ⟨tt, ti⟩, qv, qs, qn⟩) (hrq : reqB bs ⟨qk, ⟨kt, ki⟩, ⟨tt, ti⟩, qv, qs, qn⟩ = true) (h8 : qk ≤ 8) :
 Calls Try.prog 44 #[.agg #[.int .i64 qk, .int .i64 kt, .int .u16 ki, .int .i64 tt, .int .u16 ti, .int .i64 qv, .string qs, .int .i64 qn], .agg #[.slice tq tn tc], .slice lq ln lc, .int .i64 (findAt l ⟨kt, ki⟩)] w (RfPost bs l ⟨qk, ⟨kt, ki⟩, ⟨tt, ti⟩, qv, qs, qn⟩ w) := by
 have hk := reqB_kind hrq
 have hk1 : 1 ≤ qk := hk.1
 have hcase : qk = 1 ∨ qk = 2 ∨ qk = 3 ∨ qk = 4 ∨ qk = 5 ∨ qk = 6 ∨ qk = 7 ∨ qk = 8 := by omega
 clear hk hk1 h8
 rcases hcase with rfl | rfl | rfl | rfl | rfl | rfl | rfl | rfl
 · exact ref_1 kt ki tt ti qv qs qn tq tn tc bs lq ln lc l w h hr hc hrq
 · exact ref_2 kt ki tt ti qv qs qn tq tn tc bs lq ln lc l w h hr hc hrq
 · exact ref_3 kt ki tt ti qv qs qn tq tn tc bs lq ln lc l w h hr hc hrq
 · exact ref_4 kt ki tt ti qv qs qn tq tn tc bs lq ln lc l w h hr hc hrq
 · exact ref_5 kt ki tt ti qv qs qn tq tn tc bs lq ln lc l w h hr hc hrq
 · exact ref_6 kt ki tt ti qv qs qn tq tn tc bs lq ln lc l w h hr hc hrq
 · exact ref_7 kt ki tt ti qv qs qn tq tn tc bs lq ln lc l w h hr hc hq hrq
 · exact ref_8 kt ki tt ti qv qs qn tq tn tc bs lq ln lc l w h hr hc hq hrq
end Go.Proofs.Ytkdkncbccofpdaa
