/- isKey, isRequest and isOfRows of ideal. -/
import Derived.Test.YtjecmeilncfpdaaIDn
namespace Go.Proofs.Ytjecmeilncfpdaa
open Go.RowKit
set_option maxRecDepth 100000

def keyB (bs : List BdD) (k : KeyD) : Bool := decide (chkKey bs k = 0)
set_option maxHeartbeats 1000000 in
theorem isKey_any (tq : Option Addr) (tn tc : Nat) (bs : List BdD) (t id : Int) (w : World) (h : SchOn w tq tn tc bs) :
    Calls Try.prog 43 #[.agg #[.slice tq tn tc], .agg #[.int .i64 t, .int .u16 id]] w (fun e w' => e = .returned (.bool (keyB bs ⟨t, id⟩)) ∧ Below w.heap.size w w') := by
  obtain ⟨W, hW⟩ : ∃ W, (w.alloc (.cells #[.slice tq tn tc] 24)).alloc (.cells #[.int .i64 t, .int .u16 id] 44) = W := ⟨_, rfl⟩
  have hbx := Lib.hid (two_rowsI (xs := [.slice tq tn tc]) (ys := [.int .i64 t, .int .u16 id]) hW)
  have y0 : W.cell? ⟨w.heap.size, 0, none⟩ = some (.slice tq tn tc) := hbx.out.2.1.cell 0
  have y1 : W.cell? ⟨w.heap.size + 1, 0, none⟩ = some (.int .i64 t) := hbx.out.2.2.1.cell 0
  have y2 : W.cell? ⟨w.heap.size + 1, 1, none⟩ = some (.int .u16 id) := hbx.out.2.2.1.cell 1
  have hc := Lib.hid (checkKey_any tq tn tc bs t id W (h.below hbx.out.1 (Nat.le_refl _)))
  have hs1 := sizeSch tq tn tc
  have hs2 := sizeKey t id
  clear h
  go_enter Try.func43, Try.ntmps43
  go_wp2_with fail
  clear hW
  refine hc.out.mono ?_
  rintro e w1 ⟨rfl, hb⟩
  have hb' := Lib.hid (hbx.out.1.trans (hb.mono hbx.out.1.size))
  have hk : ((chkKey bs ⟨t, id⟩ : Int) == 0) = keyB bs ⟨t, id⟩ := by unfold keyB; rw [Bool.eq_iff_iff]; simp
  clear hb hc
  go_wp2
  go_ret
  exact ⟨rfl, hb'.out⟩

def reqB (bs : List BdD) (q : ReqD) : Bool :=
  if q.k = 1 ∨ q.k = 2 ∨ q.k = 4 ∨ q.k = 6 ∨ q.k = 7 then keyB bs q.key
  else if q.k = 3 ∨ q.k = 5 then keyB bs q.key && decide (q.note.size ≤ 8)
  else if q.k = 8 then keyB bs q.key && (keyB bs q.to && (!eqK q.to q.key && decide (0 ≤ q.val)))
  else if q.k = 10 then decide (1 ≤ q.n) else decide (q.k = 9 ∨ q.k = 11 ∨ q.k = 12)
theorem neq_keyI (w : World) (a b c d : Int) : (binOp .neq 44 (.agg #[.int .i64 a, .int .u16 b]) (.agg #[.int .i64 c, .int .u16 d])).run Try.prog w = .ok (.bool (!eqK ⟨a, b⟩ ⟨c, d⟩)) w := by
  rw [run_neq_struct]
  have hS : Try.prog.underlying 44 = some (.struct (Try.prog.fieldsOf 44)) := by kernel_rfl
  have hp : Try.prog.stoodInHeld 44 = false := by kernel_rfl
  have u3 := Try.underlying3
  have u4 := Try.underlying42
  have a3 := Try.isAgg3
  have a4 := Try.isAgg42
  have z3 := Try.sizeOf3
  have z4 := Try.sizeOf42
  rw [show (10000 : Nat) = 9999 + 1 from rfl, run_equalIn_agg w 9999 44 _ _ hS hp]
  simp only [Program.fieldsOf, Try.underlying44]
  clear hS hp
  unfold eqK
  go_simp
  by_cases h1 : a = c <;> by_cases h2 : b = d <;> simp [h1, h2]

def RqPost (b : Bool) (w : World) (e : Ending) (w' : World) : Prop := e = .returned (.bool b) ∧ Below w.heap.size w w'
set_option maxHeartbeats 2000000 in
theorem isReq_1 (tq : Option Addr) (tn tc : Nat) (bs : List BdD) (kt ki tt ti qv : Int) (qs : ByteArray) (qn : Int) (w : World) (h : SchOn w tq tn tc bs) :
    Calls Try.prog 30 #[.agg #[.slice tq tn tc], .agg #[.int .i64 1, .int .i64 kt, .int .u16 ki, .int .i64 tt, .int .u16 ti, .int .i64 qv, .string qs, .int .i64 qn]] w (RqPost (reqB bs ⟨1, ⟨kt, ki⟩, ⟨tt, ti⟩, qv, qs, qn⟩) w) := by
  obtain ⟨W, hW⟩ : ∃ W, (w.alloc (.cells #[.slice tq tn tc] 24)).alloc (.cells #[.int .i64 1, .int .i64 kt, .int .u16 ki, .int .i64 tt, .int .u16 ti, .int .i64 qv, .string qs, .int .i64 qn] 46) = W := ⟨_, rfl⟩
  have hbx := Lib.hid (two_rowsI (xs := [.slice tq tn tc]) (ys := [.int .i64 1, .int .i64 kt, .int .u16 ki, .int .i64 tt, .int .u16 ti, .int .i64 qv, .string qs, .int .i64 qn]) hW)
  have s0 : W.cell? ⟨w.heap.size, 0, none⟩ = some (.slice tq tn tc) := hbx.out.2.1.cell 0
  have y0 : W.cell? ⟨w.heap.size + 1, 0, none⟩ = some (.int .i64 1) := hbx.out.2.2.1.cell 0
  have y1 : W.cell? ⟨w.heap.size + 1, 1, none⟩ = some (.int .i64 kt) := hbx.out.2.2.1.cell 1
  have y2 : W.cell? ⟨w.heap.size + 1, 2, none⟩ = some (.int .u16 ki) := hbx.out.2.2.1.cell 2
  have y3 : W.cell? ⟨w.heap.size + 1, 3, none⟩ = some (.int .i64 tt) := hbx.out.2.2.1.cell 3
  have y4 : W.cell? ⟨w.heap.size + 1, 4, none⟩ = some (.int .u16 ti) := hbx.out.2.2.1.cell 4
  have y5 : W.cell? ⟨w.heap.size + 1, 5, none⟩ = some (.int .i64 qv) := hbx.out.2.2.1.cell 5
  have y6 : W.cell? ⟨w.heap.size + 1, 6, none⟩ = some (.string qs) := hbx.out.2.2.1.cell 6
  have y7 : W.cell? ⟨w.heap.size + 1, 7, none⟩ = some (.int .i64 qn) := hbx.out.2.2.1.cell 7
  have hh := Lib.hid (h.below hbx.out.1 (Nat.le_refl _))
  clear h
  go_enter Try.func30, Try.ntmps30
  go_wp2_with fail
  clear hW
  refine (isKey_any tq tn tc bs kt ki W hh.out).mono ?_
  rintro e w1 ⟨rfl, hb⟩
  have hb' := Lib.hid (hbx.out.1.trans (hb.mono hbx.out.1.size))
  clear hb
  go_wp2
  go_ret
  exact ⟨rfl, hb'.out⟩

set_option maxHeartbeats 2000000 in
theorem isReq_2 (tq : Option Addr) (tn tc : Nat) (bs : List BdD) (kt ki tt ti qv : Int) (qs : ByteArray) (qn : Int) (w : World) (h : SchOn w tq tn tc bs) :
    Calls Try.prog 30 #[.agg #[.slice tq tn tc], .agg #[.int .i64 2, .int .i64 kt, .int .u16 ki, .int .i64 tt, .int .u16 ti, .int .i64 qv, .string qs, .int .i64 qn]] w (RqPost (reqB bs ⟨2, ⟨kt, ki⟩, ⟨tt, ti⟩, qv, qs, qn⟩) w) := by
  obtain ⟨W, hW⟩ : ∃ W, (w.alloc (.cells #[.slice tq tn tc] 24)).alloc (.cells #[.int .i64 2, .int .i64 kt, .int .u16 ki, .int .i64 tt, .int .u16 ti, .int .i64 qv, .string qs, .int .i64 qn] 46) = W := ⟨_, rfl⟩
  have hbx := Lib.hid (two_rowsI (xs := [.slice tq tn tc]) (ys := [.int .i64 2, .int .i64 kt, .int .u16 ki, .int .i64 tt, .int .u16 ti, .int .i64 qv, .string qs, .int .i64 qn]) hW)
  have s0 : W.cell? ⟨w.heap.size, 0, none⟩ = some (.slice tq tn tc) := hbx.out.2.1.cell 0
  have y0 : W.cell? ⟨w.heap.size + 1, 0, none⟩ = some (.int .i64 2) := hbx.out.2.2.1.cell 0
  have y1 : W.cell? ⟨w.heap.size + 1, 1, none⟩ = some (.int .i64 kt) := hbx.out.2.2.1.cell 1
  have y2 : W.cell? ⟨w.heap.size + 1, 2, none⟩ = some (.int .u16 ki) := hbx.out.2.2.1.cell 2
  have y3 : W.cell? ⟨w.heap.size + 1, 3, none⟩ = some (.int .i64 tt) := hbx.out.2.2.1.cell 3
  have y4 : W.cell? ⟨w.heap.size + 1, 4, none⟩ = some (.int .u16 ti) := hbx.out.2.2.1.cell 4
  have y5 : W.cell? ⟨w.heap.size + 1, 5, none⟩ = some (.int .i64 qv) := hbx.out.2.2.1.cell 5
  have y6 : W.cell? ⟨w.heap.size + 1, 6, none⟩ = some (.string qs) := hbx.out.2.2.1.cell 6
  have y7 : W.cell? ⟨w.heap.size + 1, 7, none⟩ = some (.int .i64 qn) := hbx.out.2.2.1.cell 7
  have hh := Lib.hid (h.below hbx.out.1 (Nat.le_refl _))
  clear h
  go_enter Try.func30, Try.ntmps30
  go_wp2_with fail
  clear hW
  refine (isKey_any tq tn tc bs kt ki W hh.out).mono ?_
  rintro e w1 ⟨rfl, hb⟩
  have hb' := Lib.hid (hbx.out.1.trans (hb.mono hbx.out.1.size))
  clear hb
  go_wp2
  go_ret
  exact ⟨rfl, hb'.out⟩

set_option maxHeartbeats 2000000 in
theorem isReq_4 (tq : Option Addr) (tn tc : Nat) (bs : List BdD) (kt ki tt ti qv : Int) (qs : ByteArray) (qn : Int) (w : World) (h : SchOn w tq tn tc bs) :
    Calls Try.prog 30 #[.agg #[.slice tq tn tc], .agg #[.int .i64 4, .int .i64 kt, .int .u16 ki, .int .i64 tt, .int .u16 ti, .int .i64 qv, .string qs, .int .i64 qn]] w (RqPost (reqB bs ⟨4, ⟨kt, ki⟩, ⟨tt, ti⟩, qv, qs, qn⟩) w) := by
  obtain ⟨W, hW⟩ : ∃ W, (w.alloc (.cells #[.slice tq tn tc] 24)).alloc (.cells #[.int .i64 4, .int .i64 kt, .int .u16 ki, .int .i64 tt, .int .u16 ti, .int .i64 qv, .string qs, .int .i64 qn] 46) = W := ⟨_, rfl⟩
  have hbx := Lib.hid (two_rowsI (xs := [.slice tq tn tc]) (ys := [.int .i64 4, .int .i64 kt, .int .u16 ki, .int .i64 tt, .int .u16 ti, .int .i64 qv, .string qs, .int .i64 qn]) hW)
  have s0 : W.cell? ⟨w.heap.size, 0, none⟩ = some (.slice tq tn tc) := hbx.out.2.1.cell 0
  have y0 : W.cell? ⟨w.heap.size + 1, 0, none⟩ = some (.int .i64 4) := hbx.out.2.2.1.cell 0
  have y1 : W.cell? ⟨w.heap.size + 1, 1, none⟩ = some (.int .i64 kt) := hbx.out.2.2.1.cell 1
  have y2 : W.cell? ⟨w.heap.size + 1, 2, none⟩ = some (.int .u16 ki) := hbx.out.2.2.1.cell 2
  have y3 : W.cell? ⟨w.heap.size + 1, 3, none⟩ = some (.int .i64 tt) := hbx.out.2.2.1.cell 3
  have y4 : W.cell? ⟨w.heap.size + 1, 4, none⟩ = some (.int .u16 ti) := hbx.out.2.2.1.cell 4
  have y5 : W.cell? ⟨w.heap.size + 1, 5, none⟩ = some (.int .i64 qv) := hbx.out.2.2.1.cell 5
  have y6 : W.cell? ⟨w.heap.size + 1, 6, none⟩ = some (.string qs) := hbx.out.2.2.1.cell 6
  have y7 : W.cell? ⟨w.heap.size + 1, 7, none⟩ = some (.int .i64 qn) := hbx.out.2.2.1.cell 7
  have hh := Lib.hid (h.below hbx.out.1 (Nat.le_refl _))
  clear h
  go_enter Try.func30, Try.ntmps30
  go_wp2_with fail
  clear hW
  refine (isKey_any tq tn tc bs kt ki W hh.out).mono ?_
  rintro e w1 ⟨rfl, hb⟩
  have hb' := Lib.hid (hbx.out.1.trans (hb.mono hbx.out.1.size))
  clear hb
  go_wp2
  go_ret
  exact ⟨rfl, hb'.out⟩

set_option maxHeartbeats 2000000 in
theorem isReq_6 (tq : Option Addr) (tn tc : Nat) (bs : List BdD) (kt ki tt ti qv : Int) (qs : ByteArray) (qn : Int) (w : World) (h : SchOn w tq tn tc bs) :
    Calls Try.prog 30 #[.agg #[.slice tq tn tc], .agg #[.int .i64 6, .int .i64 kt, .int .u16 ki, .int .i64 tt, .int .u16 ti, .int .i64 qv, .string qs, .int .i64 qn]] w (RqPost (reqB bs ⟨6, ⟨kt, ki⟩, ⟨tt, ti⟩, qv, qs, qn⟩) w) := by
  obtain ⟨W, hW⟩ : ∃ W, (w.alloc (.cells #[.slice tq tn tc] 24)).alloc (.cells #[.int .i64 6, .int .i64 kt, .int .u16 ki, .int .i64 tt, .int .u16 ti, .int .i64 qv, .string qs, .int .i64 qn] 46) = W := ⟨_, rfl⟩
  have hbx := Lib.hid (two_rowsI (xs := [.slice tq tn tc]) (ys := [.int .i64 6, .int .i64 kt, .int .u16 ki, .int .i64 tt, .int .u16 ti, .int .i64 qv, .string qs, .int .i64 qn]) hW)
  have s0 : W.cell? ⟨w.heap.size, 0, none⟩ = some (.slice tq tn tc) := hbx.out.2.1.cell 0
  have y0 : W.cell? ⟨w.heap.size + 1, 0, none⟩ = some (.int .i64 6) := hbx.out.2.2.1.cell 0
  have y1 : W.cell? ⟨w.heap.size + 1, 1, none⟩ = some (.int .i64 kt) := hbx.out.2.2.1.cell 1
  have y2 : W.cell? ⟨w.heap.size + 1, 2, none⟩ = some (.int .u16 ki) := hbx.out.2.2.1.cell 2
  have y3 : W.cell? ⟨w.heap.size + 1, 3, none⟩ = some (.int .i64 tt) := hbx.out.2.2.1.cell 3
  have y4 : W.cell? ⟨w.heap.size + 1, 4, none⟩ = some (.int .u16 ti) := hbx.out.2.2.1.cell 4
  have y5 : W.cell? ⟨w.heap.size + 1, 5, none⟩ = some (.int .i64 qv) := hbx.out.2.2.1.cell 5
  have y6 : W.cell? ⟨w.heap.size + 1, 6, none⟩ = some (.string qs) := hbx.out.2.2.1.cell 6
  have y7 : W.cell? ⟨w.heap.size + 1, 7, none⟩ = some (.int .i64 qn) := hbx.out.2.2.1.cell 7
  have hh := Lib.hid (h.below hbx.out.1 (Nat.le_refl _))
  clear h
  go_enter Try.func30, Try.ntmps30
  go_wp2_with fail
  clear hW
  refine (isKey_any tq tn tc bs kt ki W hh.out).mono ?_
  rintro e w1 ⟨rfl, hb⟩
  have hb' := Lib.hid (hbx.out.1.trans (hb.mono hbx.out.1.size))
  clear hb
  go_wp2
  go_ret
  exact ⟨rfl, hb'.out⟩

set_option maxHeartbeats 2000000 in
theorem isReq_7 (tq : Option Addr) (tn tc : Nat) (bs : List BdD) (kt ki tt ti qv : Int) (qs : ByteArray) (qn : Int) (w : World) (h : SchOn w tq tn tc bs) :
    Calls Try.prog 30 #[.agg #[.slice tq tn tc], .agg #[.int .i64 7, .int .i64 kt, .int .u16 ki, .int .i64 tt, .int .u16 ti, .int .i64 qv, .string qs, .int .i64 qn]] w (RqPost (reqB bs ⟨7, ⟨kt, ki⟩, ⟨tt, ti⟩, qv, qs, qn⟩) w) := by
  obtain ⟨W, hW⟩ : ∃ W, (w.alloc (.cells #[.slice tq tn tc] 24)).alloc (.cells #[.int .i64 7, .int .i64 kt, .int .u16 ki, .int .i64 tt, .int .u16 ti, .int .i64 qv, .string qs, .int .i64 qn] 46) = W := ⟨_, rfl⟩
  have hbx := Lib.hid (two_rowsI (xs := [.slice tq tn tc]) (ys := [.int .i64 7, .int .i64 kt, .int .u16 ki, .int .i64 tt, .int .u16 ti, .int .i64 qv, .string qs, .int .i64 qn]) hW)
  have s0 : W.cell? ⟨w.heap.size, 0, none⟩ = some (.slice tq tn tc) := hbx.out.2.1.cell 0
  have y0 : W.cell? ⟨w.heap.size + 1, 0, none⟩ = some (.int .i64 7) := hbx.out.2.2.1.cell 0
  have y1 : W.cell? ⟨w.heap.size + 1, 1, none⟩ = some (.int .i64 kt) := hbx.out.2.2.1.cell 1
  have y2 : W.cell? ⟨w.heap.size + 1, 2, none⟩ = some (.int .u16 ki) := hbx.out.2.2.1.cell 2
  have y3 : W.cell? ⟨w.heap.size + 1, 3, none⟩ = some (.int .i64 tt) := hbx.out.2.2.1.cell 3
  have y4 : W.cell? ⟨w.heap.size + 1, 4, none⟩ = some (.int .u16 ti) := hbx.out.2.2.1.cell 4
  have y5 : W.cell? ⟨w.heap.size + 1, 5, none⟩ = some (.int .i64 qv) := hbx.out.2.2.1.cell 5
  have y6 : W.cell? ⟨w.heap.size + 1, 6, none⟩ = some (.string qs) := hbx.out.2.2.1.cell 6
  have y7 : W.cell? ⟨w.heap.size + 1, 7, none⟩ = some (.int .i64 qn) := hbx.out.2.2.1.cell 7
  have hh := Lib.hid (h.below hbx.out.1 (Nat.le_refl _))
  clear h
  go_enter Try.func30, Try.ntmps30
  go_wp2_with fail
  clear hW
  refine (isKey_any tq tn tc bs kt ki W hh.out).mono ?_
  rintro e w1 ⟨rfl, hb⟩
  have hb' := Lib.hid (hbx.out.1.trans (hb.mono hbx.out.1.size))
  clear hb
  go_wp2
  go_ret
  exact ⟨rfl, hb'.out⟩

set_option maxHeartbeats 2000000 in
theorem isReq_9 (tq : Option Addr) (tn tc : Nat) (bs : List BdD) (kt ki tt ti qv : Int) (qs : ByteArray) (qn : Int) (w : World) (h : SchOn w tq tn tc bs) :
    Calls Try.prog 30 #[.agg #[.slice tq tn tc], .agg #[.int .i64 9, .int .i64 kt, .int .u16 ki, .int .i64 tt, .int .u16 ti, .int .i64 qv, .string qs, .int .i64 qn]] w (RqPost (reqB bs ⟨9, ⟨kt, ki⟩, ⟨tt, ti⟩, qv, qs, qn⟩) w) := by
  obtain ⟨W, hW⟩ : ∃ W, (w.alloc (.cells #[.slice tq tn tc] 24)).alloc (.cells #[.int .i64 9, .int .i64 kt, .int .u16 ki, .int .i64 tt, .int .u16 ti, .int .i64 qv, .string qs, .int .i64 qn] 46) = W := ⟨_, rfl⟩
  have hbx := Lib.hid (two_rowsI (xs := [.slice tq tn tc]) (ys := [.int .i64 9, .int .i64 kt, .int .u16 ki, .int .i64 tt, .int .u16 ti, .int .i64 qv, .string qs, .int .i64 qn]) hW)
  have s0 : W.cell? ⟨w.heap.size, 0, none⟩ = some (.slice tq tn tc) := hbx.out.2.1.cell 0
  have y0 : W.cell? ⟨w.heap.size + 1, 0, none⟩ = some (.int .i64 9) := hbx.out.2.2.1.cell 0
  have y1 : W.cell? ⟨w.heap.size + 1, 1, none⟩ = some (.int .i64 kt) := hbx.out.2.2.1.cell 1
  have y2 : W.cell? ⟨w.heap.size + 1, 2, none⟩ = some (.int .u16 ki) := hbx.out.2.2.1.cell 2
  have y3 : W.cell? ⟨w.heap.size + 1, 3, none⟩ = some (.int .i64 tt) := hbx.out.2.2.1.cell 3
  have y4 : W.cell? ⟨w.heap.size + 1, 4, none⟩ = some (.int .u16 ti) := hbx.out.2.2.1.cell 4
  have y5 : W.cell? ⟨w.heap.size + 1, 5, none⟩ = some (.int .i64 qv) := hbx.out.2.2.1.cell 5
  have y6 : W.cell? ⟨w.heap.size + 1, 6, none⟩ = some (.string qs) := hbx.out.2.2.1.cell 6
  have y7 : W.cell? ⟨w.heap.size + 1, 7, none⟩ = some (.int .i64 qn) := hbx.out.2.2.1.cell 7
  have hh := Lib.hid (h.below hbx.out.1 (Nat.le_refl _))
  clear h
  go_enter Try.func30, Try.ntmps30
  go_wp2
  go_ret
  exact ⟨rfl, hbx.out.1⟩

set_option maxHeartbeats 2000000 in
theorem isReq_11 (tq : Option Addr) (tn tc : Nat) (bs : List BdD) (kt ki tt ti qv : Int) (qs : ByteArray) (qn : Int) (w : World) (h : SchOn w tq tn tc bs) :
    Calls Try.prog 30 #[.agg #[.slice tq tn tc], .agg #[.int .i64 11, .int .i64 kt, .int .u16 ki, .int .i64 tt, .int .u16 ti, .int .i64 qv, .string qs, .int .i64 qn]] w (RqPost (reqB bs ⟨11, ⟨kt, ki⟩, ⟨tt, ti⟩, qv, qs, qn⟩) w) := by
  obtain ⟨W, hW⟩ : ∃ W, (w.alloc (.cells #[.slice tq tn tc] 24)).alloc (.cells #[.int .i64 11, .int .i64 kt, .int .u16 ki, .int .i64 tt, .int .u16 ti, .int .i64 qv, .string qs, .int .i64 qn] 46) = W := ⟨_, rfl⟩
  have hbx := Lib.hid (two_rowsI (xs := [.slice tq tn tc]) (ys := [.int .i64 11, .int .i64 kt, .int .u16 ki, .int .i64 tt, .int .u16 ti, .int .i64 qv, .string qs, .int .i64 qn]) hW)
  have s0 : W.cell? ⟨w.heap.size, 0, none⟩ = some (.slice tq tn tc) := hbx.out.2.1.cell 0
  have y0 : W.cell? ⟨w.heap.size + 1, 0, none⟩ = some (.int .i64 11) := hbx.out.2.2.1.cell 0
  have y1 : W.cell? ⟨w.heap.size + 1, 1, none⟩ = some (.int .i64 kt) := hbx.out.2.2.1.cell 1
  have y2 : W.cell? ⟨w.heap.size + 1, 2, none⟩ = some (.int .u16 ki) := hbx.out.2.2.1.cell 2
  have y3 : W.cell? ⟨w.heap.size + 1, 3, none⟩ = some (.int .i64 tt) := hbx.out.2.2.1.cell 3
  have y4 : W.cell? ⟨w.heap.size + 1, 4, none⟩ = some (.int .u16 ti) := hbx.out.2.2.1.cell 4
  have y5 : W.cell? ⟨w.heap.size + 1, 5, none⟩ = some (.int .i64 qv) := hbx.out.2.2.1.cell 5
  have y6 : W.cell? ⟨w.heap.size + 1, 6, none⟩ = some (.string qs) := hbx.out.2.2.1.cell 6
  have y7 : W.cell? ⟨w.heap.size + 1, 7, none⟩ = some (.int .i64 qn) := hbx.out.2.2.1.cell 7
  have hh := Lib.hid (h.below hbx.out.1 (Nat.le_refl _))
  clear h
  go_enter Try.func30, Try.ntmps30
  go_wp2
  go_ret
  exact ⟨rfl, hbx.out.1⟩

set_option maxHeartbeats 2000000 in
theorem isReq_12 (tq : Option Addr) (tn tc : Nat) (bs : List BdD) (kt ki tt ti qv : Int) (qs : ByteArray) (qn : Int) (w : World) (h : SchOn w tq tn tc bs) :
    Calls Try.prog 30 #[.agg #[.slice tq tn tc], .agg #[.int .i64 12, .int .i64 kt, .int .u16 ki, .int .i64 tt, .int .u16 ti, .int .i64 qv, .string qs, .int .i64 qn]] w (RqPost (reqB bs ⟨12, ⟨kt, ki⟩, ⟨tt, ti⟩, qv, qs, qn⟩) w) := by
  obtain ⟨W, hW⟩ : ∃ W, (w.alloc (.cells #[.slice tq tn tc] 24)).alloc (.cells #[.int .i64 12, .int .i64 kt, .int .u16 ki, .int .i64 tt, .int .u16 ti, .int .i64 qv, .string qs, .int .i64 qn] 46) = W := ⟨_, rfl⟩
  have hbx := Lib.hid (two_rowsI (xs := [.slice tq tn tc]) (ys := [.int .i64 12, .int .i64 kt, .int .u16 ki, .int .i64 tt, .int .u16 ti, .int .i64 qv, .string qs, .int .i64 qn]) hW)
  have s0 : W.cell? ⟨w.heap.size, 0, none⟩ = some (.slice tq tn tc) := hbx.out.2.1.cell 0
  have y0 : W.cell? ⟨w.heap.size + 1, 0, none⟩ = some (.int .i64 12) := hbx.out.2.2.1.cell 0
  have y1 : W.cell? ⟨w.heap.size + 1, 1, none⟩ = some (.int .i64 kt) := hbx.out.2.2.1.cell 1
  have y2 : W.cell? ⟨w.heap.size + 1, 2, none⟩ = some (.int .u16 ki) := hbx.out.2.2.1.cell 2
  have y3 : W.cell? ⟨w.heap.size + 1, 3, none⟩ = some (.int .i64 tt) := hbx.out.2.2.1.cell 3
  have y4 : W.cell? ⟨w.heap.size + 1, 4, none⟩ = some (.int .u16 ti) := hbx.out.2.2.1.cell 4
  have y5 : W.cell? ⟨w.heap.size + 1, 5, none⟩ = some (.int .i64 qv) := hbx.out.2.2.1.cell 5
  have y6 : W.cell? ⟨w.heap.size + 1, 6, none⟩ = some (.string qs) := hbx.out.2.2.1.cell 6
  have y7 : W.cell? ⟨w.heap.size + 1, 7, none⟩ = some (.int .i64 qn) := hbx.out.2.2.1.cell 7
  have hh := Lib.hid (h.below hbx.out.1 (Nat.le_refl _))
  clear h
  go_enter Try.func30, Try.ntmps30
  go_wp2
  go_ret
  exact ⟨rfl, hbx.out.1⟩

set_option maxHeartbeats 2000000 in
theorem isReq_10 (tq : Option Addr) (tn tc : Nat) (bs : List BdD) (kt ki tt ti qv : Int) (qs : ByteArray) (qn : Int) (w : World) (h : SchOn w tq tn tc bs) :
    Calls Try.prog 30 #[.agg #[.slice tq tn tc], .agg #[.int .i64 10, .int .i64 kt, .int .u16 ki, .int .i64 tt, .int .u16 ti, .int .i64 qv, .string qs, .int .i64 qn]] w (RqPost (reqB bs ⟨10, ⟨kt, ki⟩, ⟨tt, ti⟩, qv, qs, qn⟩) w) := by
  obtain ⟨W, hW⟩ : ∃ W, (w.alloc (.cells #[.slice tq tn tc] 24)).alloc (.cells #[.int .i64 10, .int .i64 kt, .int .u16 ki, .int .i64 tt, .int .u16 ti, .int .i64 qv, .string qs, .int .i64 qn] 46) = W := ⟨_, rfl⟩
  have hbx := Lib.hid (two_rowsI (xs := [.slice tq tn tc]) (ys := [.int .i64 10, .int .i64 kt, .int .u16 ki, .int .i64 tt, .int .u16 ti, .int .i64 qv, .string qs, .int .i64 qn]) hW)
  have s0 : W.cell? ⟨w.heap.size, 0, none⟩ = some (.slice tq tn tc) := hbx.out.2.1.cell 0
  have y0 : W.cell? ⟨w.heap.size + 1, 0, none⟩ = some (.int .i64 10) := hbx.out.2.2.1.cell 0
  have y1 : W.cell? ⟨w.heap.size + 1, 1, none⟩ = some (.int .i64 kt) := hbx.out.2.2.1.cell 1
  have y2 : W.cell? ⟨w.heap.size + 1, 2, none⟩ = some (.int .u16 ki) := hbx.out.2.2.1.cell 2
  have y3 : W.cell? ⟨w.heap.size + 1, 3, none⟩ = some (.int .i64 tt) := hbx.out.2.2.1.cell 3
  have y4 : W.cell? ⟨w.heap.size + 1, 4, none⟩ = some (.int .u16 ti) := hbx.out.2.2.1.cell 4
  have y5 : W.cell? ⟨w.heap.size + 1, 5, none⟩ = some (.int .i64 qv) := hbx.out.2.2.1.cell 5
  have y6 : W.cell? ⟨w.heap.size + 1, 6, none⟩ = some (.string qs) := hbx.out.2.2.1.cell 6
  have y7 : W.cell? ⟨w.heap.size + 1, 7, none⟩ = some (.int .i64 qn) := hbx.out.2.2.1.cell 7
  have hh := Lib.hid (h.below hbx.out.1 (Nat.le_refl _))
  clear h
  go_enter Try.func30, Try.ntmps30
  go_wp2
  go_ret
  exact ⟨rfl, hbx.out.1⟩

set_option maxHeartbeats 2000000 in
theorem isReq_no (tq : Option Addr) (tn tc : Nat) (bs : List BdD) (qk : Int) (kt ki tt ti qv : Int) (qs : ByteArray) (qn : Int) (w : World) (h : SchOn w tq tn tc bs) (hk : ¬ (1 ≤ qk ∧ qk ≤ 12)) :
    Calls Try.prog 30 #[.agg #[.slice tq tn tc], .agg #[.int .i64 qk, .int .i64 kt, .int .u16 ki, .int .i64 tt, .int .u16 ti, .int .i64 qv, .string qs, .int .i64 qn]] w (RqPost (reqB bs ⟨qk, ⟨kt, ki⟩, ⟨tt, ti⟩, qv, qs, qn⟩) w) := by
  obtain ⟨W, hW⟩ : ∃ W, (w.alloc (.cells #[.slice tq tn tc] 24)).alloc (.cells #[.int .i64 qk, .int .i64 kt, .int .u16 ki, .int .i64 tt, .int .u16 ti, .int .i64 qv, .string qs, .int .i64 qn] 46) = W := ⟨_, rfl⟩
  have hbx := Lib.hid (two_rowsI (xs := [.slice tq tn tc]) (ys := [.int .i64 qk, .int .i64 kt, .int .u16 ki, .int .i64 tt, .int .u16 ti, .int .i64 qv, .string qs, .int .i64 qn]) hW)
  have s0 : W.cell? ⟨w.heap.size, 0, none⟩ = some (.slice tq tn tc) := hbx.out.2.1.cell 0
  have y0 : W.cell? ⟨w.heap.size + 1, 0, none⟩ = some (.int .i64 qk) := hbx.out.2.2.1.cell 0
  have y1 : W.cell? ⟨w.heap.size + 1, 1, none⟩ = some (.int .i64 kt) := hbx.out.2.2.1.cell 1
  have y2 : W.cell? ⟨w.heap.size + 1, 2, none⟩ = some (.int .u16 ki) := hbx.out.2.2.1.cell 2
  have y3 : W.cell? ⟨w.heap.size + 1, 3, none⟩ = some (.int .i64 tt) := hbx.out.2.2.1.cell 3
  have y4 : W.cell? ⟨w.heap.size + 1, 4, none⟩ = some (.int .u16 ti) := hbx.out.2.2.1.cell 4
  have y5 : W.cell? ⟨w.heap.size + 1, 5, none⟩ = some (.int .i64 qv) := hbx.out.2.2.1.cell 5
  have y6 : W.cell? ⟨w.heap.size + 1, 6, none⟩ = some (.string qs) := hbx.out.2.2.1.cell 6
  have y7 : W.cell? ⟨w.heap.size + 1, 7, none⟩ = some (.int .i64 qn) := hbx.out.2.2.1.cell 7
  have hh := Lib.hid (h.below hbx.out.1 (Nat.le_refl _))
  clear h
  have n1 : (qk == 1) = false := by simp; omega
  have n2 : (qk == 2) = false := by simp; omega
  have n3 : (qk == 3) = false := by simp; omega
  have n4 : (qk == 4) = false := by simp; omega
  have n5 : (qk == 5) = false := by simp; omega
  have n6 : (qk == 6) = false := by simp; omega
  have n7 : (qk == 7) = false := by simp; omega
  have n8 : (qk == 8) = false := by simp; omega
  have n9 : (qk == 9) = false := by simp; omega
  have n10 : (qk == 10) = false := by simp; omega
  have n11 : (qk == 11) = false := by simp; omega
  have n12 : (qk == 12) = false := by simp; omega
  have hr : Hid (reqB bs ⟨qk, ⟨kt, ki⟩, ⟨tt, ti⟩, qv, qs, qn⟩ = false) := by
    show _ = _
    unfold reqB
    simp only
    rw [if_neg (by omega), if_neg (by omega), if_neg (by omega), if_neg (by omega), decide_eq_false (by omega)]
  clear hk
  go_enter Try.func30, Try.ntmps30
  go_wp2
  go_ret
  refine ⟨?_, hbx.out.1⟩
  rw [hr.out]
  rfl

set_option maxHeartbeats 2000000 in
theorem isReq_3 (tq : Option Addr) (tn tc : Nat) (bs : List BdD) (kt ki tt ti qv : Int) (qs : ByteArray) (qn : Int) (w : World) (h : SchOn w tq tn tc bs) (hqs : qs.size ≤ maxLen) :
    Calls Try.prog 30 #[.agg #[.slice tq tn tc], .agg #[.int .i64 3, .int .i64 kt, .int .u16 ki, .int .i64 tt, .int .u16 ti, .int .i64 qv, .string qs, .int .i64 qn]] w (RqPost (reqB bs ⟨3, ⟨kt, ki⟩, ⟨tt, ti⟩, qv, qs, qn⟩) w) := by
  obtain ⟨W, hW⟩ : ∃ W, (w.alloc (.cells #[.slice tq tn tc] 24)).alloc (.cells #[.int .i64 3, .int .i64 kt, .int .u16 ki, .int .i64 tt, .int .u16 ti, .int .i64 qv, .string qs, .int .i64 qn] 46) = W := ⟨_, rfl⟩
  have hbx := Lib.hid (two_rowsI (xs := [.slice tq tn tc]) (ys := [.int .i64 3, .int .i64 kt, .int .u16 ki, .int .i64 tt, .int .u16 ti, .int .i64 qv, .string qs, .int .i64 qn]) hW)
  have s0 : W.cell? ⟨w.heap.size, 0, none⟩ = some (.slice tq tn tc) := hbx.out.2.1.cell 0
  have y0 : W.cell? ⟨w.heap.size + 1, 0, none⟩ = some (.int .i64 3) := hbx.out.2.2.1.cell 0
  have y1 : W.cell? ⟨w.heap.size + 1, 1, none⟩ = some (.int .i64 kt) := hbx.out.2.2.1.cell 1
  have y2 : W.cell? ⟨w.heap.size + 1, 2, none⟩ = some (.int .u16 ki) := hbx.out.2.2.1.cell 2
  have y3 : W.cell? ⟨w.heap.size + 1, 3, none⟩ = some (.int .i64 tt) := hbx.out.2.2.1.cell 3
  have y4 : W.cell? ⟨w.heap.size + 1, 4, none⟩ = some (.int .u16 ti) := hbx.out.2.2.1.cell 4
  have y5 : W.cell? ⟨w.heap.size + 1, 5, none⟩ = some (.int .i64 qv) := hbx.out.2.2.1.cell 5
  have y6 : W.cell? ⟨w.heap.size + 1, 6, none⟩ = some (.string qs) := hbx.out.2.2.1.cell 6
  have y7 : W.cell? ⟨w.heap.size + 1, 7, none⟩ = some (.int .i64 qn) := hbx.out.2.2.1.cell 7
  have hh := Lib.hid (h.below hbx.out.1 (Nat.le_refl _))
  clear h
  go_enter Try.func30, Try.ntmps30
  go_wp2_with fail
  clear hW
  refine (isKey_any tq tn tc bs kt ki W hh.out).mono ?_
  rintro e w1 ⟨rfl, hb⟩
  have hb' := Lib.hid (hbx.out.1.trans (hb.mono hbx.out.1.size))
  have z6 : w1.cell? ⟨w.heap.size + 1, 6, none⟩ = some (.string qs) := cell_keeps hb (Nat.le_refl _) y6
  obtain ⟨B, hB⟩ : ∃ B, keyB bs ⟨kt, ki⟩ = B := ⟨_, rfl⟩
  have hr : Hid (reqB bs ⟨3, ⟨kt, ki⟩, ⟨tt, ti⟩, qv, qs, qn⟩ = (B && decide (qs.size ≤ 8))) := by show _ = _; rw [← hB]; rfl
  rw [hB]
  clear hb hB y0 y1 y2 y3 y4 y5 y6 y7 s0
  unfold maxLen at hqs
  cases B with
  | true =>
    go_wp2
    go_ret
    refine ⟨?_, hb'.out⟩
    rw [hr.out]
    have e : decide ((qs.size : Int) ≤ 8) = decide (qs.size ≤ 8) := by rw [Bool.eq_iff_iff]; simp; omega
    simp [e]
  | false =>
    go_wp2
    go_ret
    exact ⟨by rw [hr.out]; rfl, hb'.out⟩

set_option maxHeartbeats 2000000 in
theorem isReq_5 (tq : Option Addr) (tn tc : Nat) (bs : List BdD) (kt ki tt ti qv : Int) (qs : ByteArray) (qn : Int) (w : World) (h : SchOn w tq tn tc bs) (hqs : qs.size ≤ maxLen) :
    Calls Try.prog 30 #[.agg #[.slice tq tn tc], .agg #[.int .i64 5, .int .i64 kt, .int .u16 ki, .int .i64 tt, .int .u16 ti, .int .i64 qv, .string qs, .int .i64 qn]] w (RqPost (reqB bs ⟨5, ⟨kt, ki⟩, ⟨tt, ti⟩, qv, qs, qn⟩) w) := by
  obtain ⟨W, hW⟩ : ∃ W, (w.alloc (.cells #[.slice tq tn tc] 24)).alloc (.cells #[.int .i64 5, .int .i64 kt, .int .u16 ki, .int .i64 tt, .int .u16 ti, .int .i64 qv, .string qs, .int .i64 qn] 46) = W := ⟨_, rfl⟩
  have hbx := Lib.hid (two_rowsI (xs := [.slice tq tn tc]) (ys := [.int .i64 5, .int .i64 kt, .int .u16 ki, .int .i64 tt, .int .u16 ti, .int .i64 qv, .string qs, .int .i64 qn]) hW)
  have s0 : W.cell? ⟨w.heap.size, 0, none⟩ = some (.slice tq tn tc) := hbx.out.2.1.cell 0
  have y0 : W.cell? ⟨w.heap.size + 1, 0, none⟩ = some (.int .i64 5) := hbx.out.2.2.1.cell 0
  have y1 : W.cell? ⟨w.heap.size + 1, 1, none⟩ = some (.int .i64 kt) := hbx.out.2.2.1.cell 1
  have y2 : W.cell? ⟨w.heap.size + 1, 2, none⟩ = some (.int .u16 ki) := hbx.out.2.2.1.cell 2
  have y3 : W.cell? ⟨w.heap.size + 1, 3, none⟩ = some (.int .i64 tt) := hbx.out.2.2.1.cell 3
  have y4 : W.cell? ⟨w.heap.size + 1, 4, none⟩ = some (.int .u16 ti) := hbx.out.2.2.1.cell 4
  have y5 : W.cell? ⟨w.heap.size + 1, 5, none⟩ = some (.int .i64 qv) := hbx.out.2.2.1.cell 5
  have y6 : W.cell? ⟨w.heap.size + 1, 6, none⟩ = some (.string qs) := hbx.out.2.2.1.cell 6
  have y7 : W.cell? ⟨w.heap.size + 1, 7, none⟩ = some (.int .i64 qn) := hbx.out.2.2.1.cell 7
  have hh := Lib.hid (h.below hbx.out.1 (Nat.le_refl _))
  clear h
  go_enter Try.func30, Try.ntmps30
  go_wp2_with fail
  clear hW
  refine (isKey_any tq tn tc bs kt ki W hh.out).mono ?_
  rintro e w1 ⟨rfl, hb⟩
  have hb' := Lib.hid (hbx.out.1.trans (hb.mono hbx.out.1.size))
  have z6 : w1.cell? ⟨w.heap.size + 1, 6, none⟩ = some (.string qs) := cell_keeps hb (Nat.le_refl _) y6
  obtain ⟨B, hB⟩ : ∃ B, keyB bs ⟨kt, ki⟩ = B := ⟨_, rfl⟩
  have hr : Hid (reqB bs ⟨5, ⟨kt, ki⟩, ⟨tt, ti⟩, qv, qs, qn⟩ = (B && decide (qs.size ≤ 8))) := by show _ = _; rw [← hB]; rfl
  rw [hB]
  clear hb hB y0 y1 y2 y3 y4 y5 y6 y7 s0
  unfold maxLen at hqs
  cases B with
  | true =>
    go_wp2
    go_ret
    refine ⟨?_, hb'.out⟩
    rw [hr.out]
    have e : decide ((qs.size : Int) ≤ 8) = decide (qs.size ≤ 8) := by rw [Bool.eq_iff_iff]; simp; omega
    simp [e]
  | false =>
    go_wp2
    go_ret
    exact ⟨by rw [hr.out]; rfl, hb'.out⟩

set_option maxHeartbeats 2000000 in
theorem isReq_8 (tq : Option Addr) (tn tc : Nat) (bs : List BdD) (kt ki tt ti qv : Int) (qs : ByteArray) (qn : Int) (w : World) (h : SchOn w tq tn tc bs) :
    Calls Try.prog 30 #[.agg #[.slice tq tn tc], .agg #[.int .i64 8, .int .i64 kt, .int .u16 ki, .int .i64 tt, .int .u16 ti, .int .i64 qv, .string qs, .int .i64 qn]] w (RqPost (reqB bs ⟨8, ⟨kt, ki⟩, ⟨tt, ti⟩, qv, qs, qn⟩) w) := by
  obtain ⟨W, hW⟩ : ∃ W, (w.alloc (.cells #[.slice tq tn tc] 24)).alloc (.cells #[.int .i64 8, .int .i64 kt, .int .u16 ki, .int .i64 tt, .int .u16 ti, .int .i64 qv, .string qs, .int .i64 qn] 46) = W := ⟨_, rfl⟩
  have hbx := Lib.hid (two_rowsI (xs := [.slice tq tn tc]) (ys := [.int .i64 8, .int .i64 kt, .int .u16 ki, .int .i64 tt, .int .u16 ti, .int .i64 qv, .string qs, .int .i64 qn]) hW)
  have s0 : W.cell? ⟨w.heap.size, 0, none⟩ = some (.slice tq tn tc) := hbx.out.2.1.cell 0
  have y0 : W.cell? ⟨w.heap.size + 1, 0, none⟩ = some (.int .i64 8) := hbx.out.2.2.1.cell 0
  have y1 : W.cell? ⟨w.heap.size + 1, 1, none⟩ = some (.int .i64 kt) := hbx.out.2.2.1.cell 1
  have y2 : W.cell? ⟨w.heap.size + 1, 2, none⟩ = some (.int .u16 ki) := hbx.out.2.2.1.cell 2
  have y3 : W.cell? ⟨w.heap.size + 1, 3, none⟩ = some (.int .i64 tt) := hbx.out.2.2.1.cell 3
  have y4 : W.cell? ⟨w.heap.size + 1, 4, none⟩ = some (.int .u16 ti) := hbx.out.2.2.1.cell 4
  have y5 : W.cell? ⟨w.heap.size + 1, 5, none⟩ = some (.int .i64 qv) := hbx.out.2.2.1.cell 5
  have y6 : W.cell? ⟨w.heap.size + 1, 6, none⟩ = some (.string qs) := hbx.out.2.2.1.cell 6
  have y7 : W.cell? ⟨w.heap.size + 1, 7, none⟩ = some (.int .i64 qn) := hbx.out.2.2.1.cell 7
  have hh := Lib.hid (h.below hbx.out.1 (Nat.le_refl _))
  clear h
  go_enter Try.func30, Try.ntmps30
  go_wp2_with fail
  clear hW
  refine (isKey_any tq tn tc bs kt ki W hh.out).mono ?_
  rintro e w1 ⟨rfl, hb⟩
  have hb' := Lib.hid (hbx.out.1.trans (hb.mono hbx.out.1.size))
  have h1 := Lib.hid (hh.out.below hb (Nat.le_refl _))
  have z0 : w1.cell? ⟨w.heap.size, 0, none⟩ = some (.slice tq tn tc) := cell_keeps hb (Nat.le_refl _) s0
  have z1 : w1.cell? ⟨w.heap.size + 1, 1, none⟩ = some (.int .i64 kt) := cell_keeps hb (Nat.le_refl _) y1
  have z2 : w1.cell? ⟨w.heap.size + 1, 2, none⟩ = some (.int .u16 ki) := cell_keeps hb (Nat.le_refl _) y2
  have z3 : w1.cell? ⟨w.heap.size + 1, 3, none⟩ = some (.int .i64 tt) := cell_keeps hb (Nat.le_refl _) y3
  have z4 : w1.cell? ⟨w.heap.size + 1, 4, none⟩ = some (.int .u16 ti) := cell_keeps hb (Nat.le_refl _) y4
  have z5 : w1.cell? ⟨w.heap.size + 1, 5, none⟩ = some (.int .i64 qv) := cell_keeps hb (Nat.le_refl _) y5
  obtain ⟨B, hB⟩ : ∃ B, keyB bs ⟨kt, ki⟩ = B := ⟨_, rfl⟩
  have hr : Hid (reqB bs ⟨8, ⟨kt, ki⟩, ⟨tt, ti⟩, qv, qs, qn⟩ = (B && (keyB bs ⟨tt, ti⟩ && (!eqK ⟨tt, ti⟩ ⟨kt, ki⟩ && decide (0 ≤ qv))))) := by show _ = _; rw [← hB]; rfl
  rw [hB]
  clear hb hB y0 y1 y2 y3 y4 y5 y6 y7 s0
  cases B with
  | false =>
    go_wp2
    go_ret
    exact ⟨by rw [hr.out]; rfl, hb'.out⟩
  | true =>
    go_wp2_with fail
    refine (isKey_any tq tn tc bs tt ti w1 h1.out).mono ?_
    rintro e w2 ⟨rfl, hb⟩
    have hb2 := Lib.hid (hb'.out.trans (hb.mono hb'.out.size))
    have u1 : w2.cell? ⟨w.heap.size + 1, 1, none⟩ = some (.int .i64 kt) := cell_keeps hb (Nat.le_refl _) z1
    have u2 : w2.cell? ⟨w.heap.size + 1, 2, none⟩ = some (.int .u16 ki) := cell_keeps hb (Nat.le_refl _) z2
    have u3 : w2.cell? ⟨w.heap.size + 1, 3, none⟩ = some (.int .i64 tt) := cell_keeps hb (Nat.le_refl _) z3
    have u4 : w2.cell? ⟨w.heap.size + 1, 4, none⟩ = some (.int .u16 ti) := cell_keeps hb (Nat.le_refl _) z4
    have u5 : w2.cell? ⟨w.heap.size + 1, 5, none⟩ = some (.int .i64 qv) := cell_keeps hb (Nat.le_refl _) z5
    obtain ⟨B, hB⟩ : ∃ B, keyB bs ⟨tt, ti⟩ = B := ⟨_, rfl⟩
    have hr2 : Hid (reqB bs ⟨8, ⟨kt, ki⟩, ⟨tt, ti⟩, qv, qs, qn⟩ = (B && (!eqK ⟨tt, ti⟩ ⟨kt, ki⟩ && decide (0 ≤ qv)))) := by show _ = _; rw [hr.out, hB]; rfl
    rw [hB]
    clear hb hB z0 z1 z2 z3 z4 z5
    cases B with
    | false =>
      go_wp2
      go_ret
      exact ⟨by rw [hr2.out]; rfl, hb2.out⟩
    | true =>
      have hne := fun u => neq_keyI u tt ti kt ki
      obtain ⟨E, hE⟩ : ∃ E, eqK ⟨tt, ti⟩ ⟨kt, ki⟩ = E := ⟨_, rfl⟩
      have hr3 : Hid (reqB bs ⟨8, ⟨kt, ki⟩, ⟨tt, ti⟩, qv, qs, qn⟩ = (!E && decide (0 ≤ qv))) := by show _ = _; rw [hr2.out, hE]; rfl
      rw [hE] at hne
      clear hE
      cases E with
      | true =>
        have hne2 : ∀ u, (binOp .neq 44 (.agg #[.int .i64 tt, .int .u16 ti]) (.agg #[.int .i64 kt, .int .u16 ki])).run Try.prog u = .ok (.bool false) u := hne
        clear hne
        go_wp2
        go_ret
        exact ⟨by rw [hr3.out]; rfl, hb2.out⟩
      | false =>
        have hne2 : ∀ u, (binOp .neq 44 (.agg #[.int .i64 tt, .int .u16 ti]) (.agg #[.int .i64 kt, .int .u16 ki])).run Try.prog u = .ok (.bool true) u := hne
        clear hne
        go_wp2
        go_ret
        exact ⟨by rw [hr3.out]; rfl, hb2.out⟩

theorem isReq_any (qk kt ki tt ti qv : Int) (qs : ByteArray) (qn : Int) (bs : List BdD) (w : World) (tq : Option Addr) (tn tc : Nat) (h : SchOn w tq tn tc bs) (hqs : qs.size ≤ maxLen) :
    Calls Try.prog 30 #[.agg #[.slice tq tn tc], .agg #[.int .i64 qk, .int .i64 kt, .int .u16 ki, .int .i64 tt, .int .u16 ti, .int .i64 qv, .string qs, .int .i64 qn]] w (RqPost (reqB bs ⟨qk, ⟨kt, ki⟩, ⟨tt, ti⟩, qv, qs, qn⟩) w) := by
  by_cases hk : 1 ≤ qk ∧ qk ≤ 12
  · have hc : qk = 1 ∨ qk = 2 ∨ qk = 3 ∨ qk = 4 ∨ qk = 5 ∨ qk = 6 ∨ qk = 7 ∨ qk = 8 ∨ qk = 9 ∨ qk = 10 ∨ qk = 11 ∨ qk = 12 := by omega
    clear hk
    rcases hc with rfl | rfl | rfl | rfl | rfl | rfl | rfl | rfl | rfl | rfl | rfl | rfl
    · exact isReq_1 tq tn tc bs kt ki tt ti qv qs qn w h
    · exact isReq_2 tq tn tc bs kt ki tt ti qv qs qn w h
    · exact isReq_3 tq tn tc bs kt ki tt ti qv qs qn w h hqs
    · exact isReq_4 tq tn tc bs kt ki tt ti qv qs qn w h
    · exact isReq_5 tq tn tc bs kt ki tt ti qv qs qn w h hqs
    · exact isReq_6 tq tn tc bs kt ki tt ti qv qs qn w h
    · exact isReq_7 tq tn tc bs kt ki tt ti qv qs qn w h
    · exact isReq_8 tq tn tc bs kt ki tt ti qv qs qn w h
    · exact isReq_9 tq tn tc bs kt ki tt ti qv qs qn w h
    · exact isReq_10 tq tn tc bs kt ki tt ti qv qs qn w h
    · exact isReq_11 tq tn tc bs kt ki tt ti qv qs qn w h
    · exact isReq_12 tq tn tc bs kt ki tt ti qv qs qn w h
  · exact isReq_no tq tn tc bs qk kt ki tt ti qv qs qn w h hk

set_option maxHeartbeats 1000000 in
theorem ofRows_any (qk kt ki tt ti qv : Int) (qs : ByteArray) (qn : Int) (w : World) : Calls Try.prog 40 #[.agg #[.int .i64 qk, .int .i64 kt, .int .u16 ki, .int .i64 tt, .int .u16 ti, .int .i64 qv, .string qs, .int .i64 qn]] w (RqPost (decide (qk ≤ 8)) w) := by
  obtain ⟨W, hW⟩ : ∃ W, w.alloc (.cells #[.int .i64 qk, .int .i64 kt, .int .u16 ki, .int .i64 tt, .int .u16 ti, .int .i64 qv, .string qs, .int .i64 qn] 46) = W := ⟨_, rfl⟩
  have hbx := Lib.hid (one_rowI (xs := [.int .i64 qk, .int .i64 kt, .int .u16 ki, .int .i64 tt, .int .u16 ti, .int .i64 qv, .string qs, .int .i64 qn]) hW)
  have y0 : W.cell? ⟨w.heap.size, 0, none⟩ = some (.int .i64 qk) := hbx.out.2.1.cell 0
  go_enter Try.func40, Try.ntmps40
  go_wp2
  go_ret
  exact ⟨rfl, hbx.out.1⟩
end Go.Proofs.Ytjecmeilncfpdaa
