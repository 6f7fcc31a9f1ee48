/- isKey, isRequest and isOfRows of ideal. -/
import Derived.Test.YtkdkncbccofpdaaQ16
import Derived.Test.YtkdkncbccofpdaaQ17
namespace Go.Proofs.Ytkdkncbccofpdaa
open Go.RowKit
set_option maxRecDepth 100000
def keyB (bs : List BdD) (k : KeyD) : Bool := decide (chkKey bs k = 0)
set_option maxHeartbeats 1000000 in
theorem isKey_any (tq : Option Addr) (tn tc : Nat) (bs : List BdD) (t id : Int) (w : World) (h : SchOn w tq tn tc bs) :
 Calls Try.prog 60 #[.agg #[.slice tq tn tc], .agg #[.int .i64 t, .int .u16 id]] w (fun e w' => e = .returned (.bool (keyB bs ⟨t, id⟩)) ∧ Below w.heap.size w w') := by
 obtain ⟨W, hW⟩ : ∃ W, (w.alloc (.cells #[.slice tq tn tc] 24)).alloc (.cells #[.int .i64 t, .int .u16 id] 28) = W := ⟨_, rfl⟩
 have hbx := Lib.hid (two_rowsI (xs := [.slice tq tn tc]) (ys := [.int .i64 t, .int .u16 id]) hW)
 have y0 : W.cell? ⟨w.heap.size, 0, none⟩ = some (.slice tq tn tc) := hbx.out.2.1.cell 0
 have y1 : W.cell? ⟨w.heap.size + 1, 0, none⟩ = some (.int .i64 t) := hbx.out.2.2.1.cell 0
 have y2 : W.cell? ⟨w.heap.size + 1, 1, none⟩ = some (.int .u16 id) := hbx.out.2.2.1.cell 1
 have hc := Lib.hid (checkKey_any tq tn tc bs t id W (h.below hbx.out.1 (Nat.le_refl _)))
 have hs1 := sizeSch tq tn tc
 have hs2 := sizeKey t id
 clear h
 go_enter Try.func60, Try.ntmps60
 go_wp2_with fail
 clear hW
 refine hc.out.mono ?_
 rintro e w1 ⟨rfl, hb⟩
 have hb' := Lib.hid (hbx.out.1.trans (hb.mono hbx.out.1.size))
 have hk : ((chkKey bs ⟨t, id⟩ : Int) == 0) = keyB bs ⟨t, id⟩ := by unfold keyB; rw [Bool.eq_iff_iff]; simp
 clear hb hc
 go_wp2
 go_ret
 exact ⟨rfl, hb'.out⟩
def cntB (bs : List BdD) (q : ReqD) : Bool :=
 if q.k = 1 ∨ q.k = 2 ∨ q.k = 4 ∨ q.k = 6 ∨ q.k = 7 then keyB bs q.key
 else if q.k = 3 ∨ q.k = 5 then keyB bs q.key && decide (q.note.size ≤ 8)
 else if q.k = 8 then keyB bs q.key && (keyB bs q.to && (!eqK q.to q.key && decide (0 ≤ q.val)))
 else if q.k = 10 then decide (1 ≤ q.n) else decide (q.k = 9 ∨ q.k = 11 ∨ q.k = 12)
/-- a request that is all zeros -/
def zReq (q : ReqD) : Bool := q.k == 0 && (q.key.t == 0 && q.key.id == 0) && (q.to.t == 0 && q.to.id == 0) && q.val == 0 && (q.note.size == 0) && q.n == 0
def reqB (bs : List BdD) (q : ReqD) : Bool := zReq (othR q) && cntB bs q
set_option maxHeartbeats 1000000 in
theorem neq_reqZ (w : World) (k a b c d v : Int) (s : ByteArray) (n : Int) : (binOp .neq 30 (.agg #[.int .i64 k, .int .i64 a, .int .u16 b, .int .i64 c, .int .u16 d, .int .i64 v, .string s, .int .i64 n]) (.agg #[.int .i64 0, .int .i64 0, .int .u16 0, .int .i64 0, .int .u16 0, .int .i64 0, .string ⟨#[]⟩, .int .i64 0])).run Try.prog w = .ok (.bool (!zReq ⟨k, ⟨a, b⟩, ⟨c, d⟩, v, s, n⟩)) w := by
 have hS : Try.prog.underlying 30 = some (.struct (Try.prog.fieldsOf 30)) := by kernel_rfl
 have hp : Try.prog.stoodInHeld 30 = false := by kernel_rfl
 have u2 := Try.underlying2
 have u3 := Try.underlying3
 have u4 := Try.underlying9
 have a2 := Try.isAgg2
 have a3 := Try.isAgg3
 have a4 := Try.isAgg9
 have a5 := Try.isAgg28
 have z2 := Try.sizeOf2
 have z3 := Try.sizeOf3
 have z4 := Try.sizeOf9
 have z5 := Try.sizeOf28
 have hk1 := fun w => equal_key w a b 0 0
 have hk2 := fun w => equal_key w c d 0 0
 rw [run_neq_struct, show (10000 : Nat) = 9999 + 1 from rfl, run_equalIn_agg w 9999 30 _ _ hS hp]
 simp only [Program.fieldsOf, Try.underlying30]
 clear hS hp
 unfold zReq
 have hi : ∀ (w : World) (x : Int), (Op.equalIn 9999 3 (.int .i64 x) (.int .i64 0)).run Try.prog w = .ok (x == 0) w := fun w x => run_equalIn_int w 9998 3 .i64 .i64 x 0 u3
 have hv : ∀ (w : World) (x : Int), (Op.equalIn 9999 2 (.int .i64 x) (.int .i64 0)).run Try.prog w = .ok (x == 0) w := fun w x => run_equalIn_int w 9998 2 .i64 .i64 x 0 u2
 have hs : ∀ w : World, (Op.equalIn 9999 9 (.string s) (.string ⟨#[]⟩)).run Try.prog w =   .ok (s.toList == (⟨#[]⟩ : ByteArray).toList) w := fun w => run_equalIn_string w 9998 9 s ⟨#[]⟩ u4
 have x1 : (#[Value.int .i64 k, .int .i64 a, .int .u16 b, .int .i64 c, .int .u16 d, .int .i64 v, .string s, .int .i64 n].extract 1 3) = #[Value.int .i64 a, .int .u16 b] := rfl
 have x2 : (#[Value.int .i64 k, .int .i64 a, .int .u16 b, .int .i64 c, .int .u16 d, .int .i64 v, .string s, .int .i64 n].extract 3 5) = #[Value.int .i64 c, .int .u16 d] := rfl
 have x3 : (#[Value.int .i64 0, .int .i64 0, .int .u16 0, .int .i64 0, .int .u16 0, .int .i64 0, .string ⟨#[]⟩, .int .i64 0].extract 1 3) = #[Value.int .i64 0, .int .u16 0] := rfl
 have x4 : (#[Value.int .i64 0, .int .i64 0, .int .u16 0, .int .i64 0, .int .u16 0, .int .i64 0, .string ⟨#[]⟩, .int .i64 0].extract 3 5) = #[Value.int .i64 0, .int .u16 0] := rfl
 have t0 : (#[Value.int .i64 k, .int .i64 a, .int .u16 b, .int .i64 c, .int .u16 d, .int .i64 v, .string s, .int .i64 n])[0]? = some (.int .i64 k) := rfl
 have t5 : (#[Value.int .i64 k, .int .i64 a, .int .u16 b, .int .i64 c, .int .u16 d, .int .i64 v, .string s, .int .i64 n])[5]? = some (.int .i64 v) := rfl
 have t6 : (#[Value.int .i64 k, .int .i64 a, .int .u16 b, .int .i64 c, .int .u16 d, .int .i64 v, .string s, .int .i64 n])[6]? = some (.string s) := rfl
 have t7 : (#[Value.int .i64 k, .int .i64 a, .int .u16 b, .int .i64 c, .int .u16 d, .int .i64 v, .string s, .int .i64 n])[7]? = some (.int .i64 n) := rfl
 have e0 : (#[Value.int .i64 0, .int .i64 0, .int .u16 0, .int .i64 0, .int .u16 0, .int .i64 0, .string ⟨#[]⟩, .int .i64 0])[0]? = some (.int .i64 0) := rfl
 have e5 : (#[Value.int .i64 0, .int .i64 0, .int .u16 0, .int .i64 0, .int .u16 0, .int .i64 0, .string ⟨#[]⟩, .int .i64 0])[5]? = some (.int .i64 0) := rfl
 have e6 : (#[Value.int .i64 0, .int .i64 0, .int .u16 0, .int .i64 0, .int .u16 0, .int .i64 0, .string ⟨#[]⟩, .int .i64 0])[6]? = some (.string ⟨#[]⟩) := rfl
 have e7 : (#[Value.int .i64 0, .int .i64 0, .int .u16 0, .int .i64 0, .int .u16 0, .int .i64 0, .string ⟨#[]⟩, .int .i64 0])[7]? = some (.int .i64 0) := rfl
 have n1 : ("Kind" : String) ≠ "_" := by decide
 have n2 : ("Key" : String) ≠ "_" := by decide
 have n3 : ("To" : String) ≠ "_" := by decide
 have n4 : ("Val" : String) ≠ "_" := by decide
 have n5 : ("Note" : String) ≠ "_" := by decide
 have n6 : ("N" : String) ≠ "_" := by decide
 simp only [Op.eqFields, part, a5, z5, a2, a3, a4, z2, z3, z4, hk1, hk2, hi, hv, hs, x1, x2, x3, x4, t0, t5, t6, t7, e0, e5, e6, e7, if_pos n1, if_pos n2, if_pos n3, if_pos n4, if_pos n5, if_pos n6, Sem.run_bind, Sem.run_ite, Sem.run_pure, Result.andThen_ok, Nat.zero_add, Nat.reduceAdd, Bool.false_eq_true, if_false, if_true]
 have hsz : (s.toList == (⟨#[]⟩ : ByteArray).toList) = (s.size == 0) := by
  rw [Bool.eq_iff_iff, beq_iff_eq, beq_iff_eq]
  constructor
  · intro h; rw [bytes_inj h]; rfl
  · intro h
    obtain ⟨⟨l⟩⟩ := s
    cases l with
    | nil => rfl
    | cons x l => exact absurd (show (x :: l).length = 0 from h) (by simp)
 rw [hsz]
 generalize (s.size == 0) = g
 generalize (k == 0) = g1
 generalize (a == 0) = g2
 generalize (b == 0) = g3
 generalize (c == 0) = g4
 generalize (d == 0) = g5
 generalize (v == 0) = g6
 generalize (n == 0) = g7
 cases g1 <;> cases g2 <;> cases g3 <;> cases g4 <;> cases g5 <;> cases g6 <;> cases g <;> cases g7 <;> rfl
theorem neq_keyI (w : World) (a b c d : Int) : (binOp .neq 28 (.agg #[.int .i64 a, .int .u16 b]) (.agg #[.int .i64 c, .int .u16 d])).run Try.prog w = .ok (.bool (!eqK ⟨a, b⟩ ⟨c, d⟩)) w := by
 rw [run_neq_struct]
 have hS : Try.prog.underlying 28 = some (.struct (Try.prog.fieldsOf 28)) := by kernel_rfl
 have hp : Try.prog.stoodInHeld 28 = false := by kernel_rfl
 have u3 := Try.underlying3
 have u4 := Try.underlying26
 have a3 := Try.isAgg3
 have a4 := Try.isAgg26
 have z3 := Try.sizeOf3
 have z4 := Try.sizeOf26
 rw [show (10000 : Nat) = 9999 + 1 from rfl, run_equalIn_agg w 9999 28 _ _ hS hp]
 simp only [Program.fieldsOf, Try.underlying28]
 clear hS hp
 unfold eqK
 go_simp
 by_cases h1 : a = c <;> by_cases h2 : b = d <;> simp [h1, h2]
def RqPost (b : Bool) (w : World) (e : Ending) (w' : World) : Prop := e = .returned (.bool b) ∧ Below w.heap.size w w'
set_option maxHeartbeats 2000000 in
theorem isReq_1 (tq : Option Addr) (tn tc : Nat) (bs : List BdD) (kt ki tt ti qv : Int) (qs : ByteArray) (qn : Int) (w : World) (h : SchOn w tq tn tc bs) :
 Calls Try.prog 36 #[.agg #[.slice tq tn tc], .agg #[.int .i64 1, .int .i64 kt, .int .u16 ki, .int .i64 tt, .int .u16 ti, .int .i64 qv, .string qs, .int .i64 qn]] w (RqPost (reqB bs ⟨1, ⟨kt, ki⟩, ⟨tt, ti⟩, qv, qs, qn⟩) w) := by
 obtain ⟨W0, hW⟩ : ∃ W, (w.alloc (.cells #[.slice tq tn tc] 24)).alloc (.cells #[.int .i64 1, .int .i64 kt, .int .u16 ki, .int .i64 tt, .int .u16 ti, .int .i64 qv, .string qs, .int .i64 qn] 30) = W := ⟨_, rfl⟩
 have hbx := Lib.hid (two_rowsI (xs := [.slice tq tn tc]) (ys := [.int .i64 1, .int .i64 kt, .int .u16 ki, .int .i64 tt, .int .u16 ti, .int .i64 qv, .string qs, .int .i64 qn]) hW)
 have x0 : W0.cell? ⟨w.heap.size + 1, 0, none⟩ = some (.int .i64 1) := hbx.out.2.2.1.cell 0
 have x1 : W0.cell? ⟨w.heap.size + 1, 1, none⟩ = some (.int .i64 kt) := hbx.out.2.2.1.cell 1
 have x2 : W0.cell? ⟨w.heap.size + 1, 2, none⟩ = some (.int .u16 ki) := hbx.out.2.2.1.cell 2
 have x3 : W0.cell? ⟨w.heap.size + 1, 3, none⟩ = some (.int .i64 tt) := hbx.out.2.2.1.cell 3
 have x4 : W0.cell? ⟨w.heap.size + 1, 4, none⟩ = some (.int .u16 ti) := hbx.out.2.2.1.cell 4
 have x5 : W0.cell? ⟨w.heap.size + 1, 5, none⟩ = some (.int .i64 qv) := hbx.out.2.2.1.cell 5
 have x6 : W0.cell? ⟨w.heap.size + 1, 6, none⟩ = some (.string qs) := hbx.out.2.2.1.cell 6
 have x7 : W0.cell? ⟨w.heap.size + 1, 7, none⟩ = some (.int .i64 qn) := hbx.out.2.2.1.cell 7
 have hh0 := Lib.hid (h.below hbx.out.1 (Nat.le_refl _))
 clear h
 obtain ⟨⟨o0, ⟨oa, ob⟩, ⟨oc, od⟩, ov, os_, on⟩, ho⟩ : ∃ r, othR ⟨1, ⟨kt, ki⟩, ⟨tt, ti⟩, qv, qs, qn⟩ = r := ⟨_, rfl⟩
 have hot := others_any 1 kt ki tt ti qv qs qn W0
 rw [ho] at hot
 have hot := Lib.hid hot
 have hne := fun u => neq_reqZ u o0 oa ob oc od ov os_ on
 obtain ⟨Z, hZ⟩ : ∃ Z, zReq ⟨o0, ⟨oa, ob⟩, ⟨oc, od⟩, ov, os_, on⟩ = Z := ⟨_, rfl⟩
 rw [hZ] at hne
 have hq : reqB bs ⟨1, ⟨kt, ki⟩, ⟨tt, ti⟩, qv, qs, qn⟩ = (Z && cntB bs ⟨1, ⟨kt, ki⟩, ⟨tt, ti⟩, qv, qs, qn⟩) := by unfold reqB; rw [ho, hZ]
 rw [hq]
 clear hq hZ ho
 go_enter Try.func36, Try.ntmps36
 go_wp2_with fail
 clear hW x0 x1 x2 x3 x4 x5 x6 x7
 refine hot.out.mono ?_
 rintro e W ⟨rfl, hb⟩
 clear hot
 have hbW := Lib.hid (hbx.out.1.trans (hb.mono hbx.out.1.size))
 have hh := Lib.hid (hh0.out.below hb (Nat.le_refl _))
 have r0 := Lib.hid (hbx.out.2.1.below hb)
 have r1 := Lib.hid (hbx.out.2.2.1.below hb)
 clear hb hbx hh0
 have hne2 : ∀ u, (binOp .neq 30 (.agg (ReqD.cells ⟨o0, ⟨oa, ob⟩, ⟨oc, od⟩, ov, os_, on⟩).toArray) (.agg #[.int .i64 0, .int .i64 0, .int .u16 0, .int .i64 0, .int .u16 0, .int .i64 0, .string ⟨#[]⟩, .int .i64 0])).run Try.prog u = .ok (.bool (!Z)) u := hne
 clear hne
 cases Z with
 | false =>
   go_wp2
   go_ret
   exact ⟨rfl, hbW.out⟩
 | true =>
 have s0 : W.cell? ⟨w.heap.size, 0, none⟩ = some (.slice tq tn tc) := r0.out.cell 0
 have y0 : W.cell? ⟨w.heap.size + 1, 0, none⟩ = some (.int .i64 1) := r1.out.cell 0
 have y1 : W.cell? ⟨w.heap.size + 1, 1, none⟩ = some (.int .i64 kt) := r1.out.cell 1
 have y2 : W.cell? ⟨w.heap.size + 1, 2, none⟩ = some (.int .u16 ki) := r1.out.cell 2
 have y3 : W.cell? ⟨w.heap.size + 1, 3, none⟩ = some (.int .i64 tt) := r1.out.cell 3
 have y4 : W.cell? ⟨w.heap.size + 1, 4, none⟩ = some (.int .u16 ti) := r1.out.cell 4
 have y5 : W.cell? ⟨w.heap.size + 1, 5, none⟩ = some (.int .i64 qv) := r1.out.cell 5
 have y6 : W.cell? ⟨w.heap.size + 1, 6, none⟩ = some (.string qs) := r1.out.cell 6
 have y7 : W.cell? ⟨w.heap.size + 1, 7, none⟩ = some (.int .i64 qn) := r1.out.cell 7
 go_wp2_with fail
 refine (isKey_any tq tn tc bs kt ki W hh.out).mono ?_
 rintro e w1 ⟨rfl, hb⟩
 have hb' := Lib.hid (hbW.out.trans (hb.mono hbW.out.size))
 clear hb
 go_wp2
 go_ret
 exact ⟨rfl, hb'.out⟩
set_option maxHeartbeats 2000000 in
theorem isReq_2 (tq : Option Addr) (tn tc : Nat) (bs : List BdD) (kt ki tt ti qv : Int) (qs : ByteArray) (qn : Int) (w : World) (h : SchOn w tq tn tc bs) :
 Calls Try.prog 36 #[.agg #[.slice tq tn tc], .agg #[.int .i64 2, .int .i64 kt, .int .u16 ki, .int .i64 tt, .int .u16 ti, .int .i64 qv, .string qs, .int .i64 qn]] w (RqPost (reqB bs ⟨2, ⟨kt, ki⟩, ⟨tt, ti⟩, qv, qs, qn⟩) w) := by
 obtain ⟨W0, hW⟩ : ∃ W, (w.alloc (.cells #[.slice tq tn tc] 24)).alloc (.cells #[.int .i64 2, .int .i64 kt, .int .u16 ki, .int .i64 tt, .int .u16 ti, .int .i64 qv, .string qs, .int .i64 qn] 30) = W := ⟨_, rfl⟩
 have hbx := Lib.hid (two_rowsI (xs := [.slice tq tn tc]) (ys := [.int .i64 2, .int .i64 kt, .int .u16 ki, .int .i64 tt, .int .u16 ti, .int .i64 qv, .string qs, .int .i64 qn]) hW)
 have x0 : W0.cell? ⟨w.heap.size + 1, 0, none⟩ = some (.int .i64 2) := hbx.out.2.2.1.cell 0
 have x1 : W0.cell? ⟨w.heap.size + 1, 1, none⟩ = some (.int .i64 kt) := hbx.out.2.2.1.cell 1
 have x2 : W0.cell? ⟨w.heap.size + 1, 2, none⟩ = some (.int .u16 ki) := hbx.out.2.2.1.cell 2
 have x3 : W0.cell? ⟨w.heap.size + 1, 3, none⟩ = some (.int .i64 tt) := hbx.out.2.2.1.cell 3
 have x4 : W0.cell? ⟨w.heap.size + 1, 4, none⟩ = some (.int .u16 ti) := hbx.out.2.2.1.cell 4
 have x5 : W0.cell? ⟨w.heap.size + 1, 5, none⟩ = some (.int .i64 qv) := hbx.out.2.2.1.cell 5
 have x6 : W0.cell? ⟨w.heap.size + 1, 6, none⟩ = some (.string qs) := hbx.out.2.2.1.cell 6
 have x7 : W0.cell? ⟨w.heap.size + 1, 7, none⟩ = some (.int .i64 qn) := hbx.out.2.2.1.cell 7
 have hh0 := Lib.hid (h.below hbx.out.1 (Nat.le_refl _))
 clear h
 obtain ⟨⟨o0, ⟨oa, ob⟩, ⟨oc, od⟩, ov, os_, on⟩, ho⟩ : ∃ r, othR ⟨2, ⟨kt, ki⟩, ⟨tt, ti⟩, qv, qs, qn⟩ = r := ⟨_, rfl⟩
 have hot := others_any 2 kt ki tt ti qv qs qn W0
 rw [ho] at hot
 have hot := Lib.hid hot
 have hne := fun u => neq_reqZ u o0 oa ob oc od ov os_ on
 obtain ⟨Z, hZ⟩ : ∃ Z, zReq ⟨o0, ⟨oa, ob⟩, ⟨oc, od⟩, ov, os_, on⟩ = Z := ⟨_, rfl⟩
 rw [hZ] at hne
 have hq : reqB bs ⟨2, ⟨kt, ki⟩, ⟨tt, ti⟩, qv, qs, qn⟩ = (Z && cntB bs ⟨2, ⟨kt, ki⟩, ⟨tt, ti⟩, qv, qs, qn⟩) := by unfold reqB; rw [ho, hZ]
 rw [hq]
 clear hq hZ ho
 go_enter Try.func36, Try.ntmps36
 go_wp2_with fail
 clear hW x0 x1 x2 x3 x4 x5 x6 x7
 refine hot.out.mono ?_
 rintro e W ⟨rfl, hb⟩
 clear hot
 have hbW := Lib.hid (hbx.out.1.trans (hb.mono hbx.out.1.size))
 have hh := Lib.hid (hh0.out.below hb (Nat.le_refl _))
 have r0 := Lib.hid (hbx.out.2.1.below hb)
 have r1 := Lib.hid (hbx.out.2.2.1.below hb)
 clear hb hbx hh0
 have hne2 : ∀ u, (binOp .neq 30 (.agg (ReqD.cells ⟨o0, ⟨oa, ob⟩, ⟨oc, od⟩, ov, os_, on⟩).toArray) (.agg #[.int .i64 0, .int .i64 0, .int .u16 0, .int .i64 0, .int .u16 0, .int .i64 0, .string ⟨#[]⟩, .int .i64 0])).run Try.prog u = .ok (.bool (!Z)) u := hne
 clear hne
 cases Z with
 | false =>
   go_wp2
   go_ret
   exact ⟨rfl, hbW.out⟩
 | true =>
 have s0 : W.cell? ⟨w.heap.size, 0, none⟩ = some (.slice tq tn tc) := r0.out.cell 0
 have y0 : W.cell? ⟨w.heap.size + 1, 0, none⟩ = some (.int .i64 2) := r1.out.cell 0
 have y1 : W.cell? ⟨w.heap.size + 1, 1, none⟩ = some (.int .i64 kt) := r1.out.cell 1
 have y2 : W.cell? ⟨w.heap.size + 1, 2, none⟩ = some (.int .u16 ki) := r1.out.cell 2
 have y3 : W.cell? ⟨w.heap.size + 1, 3, none⟩ = some (.int .i64 tt) := r1.out.cell 3
 have y4 : W.cell? ⟨w.heap.size + 1, 4, none⟩ = some (.int .u16 ti) := r1.out.cell 4
 have y5 : W.cell? ⟨w.heap.size + 1, 5, none⟩ = some (.int .i64 qv) := r1.out.cell 5
 have y6 : W.cell? ⟨w.heap.size + 1, 6, none⟩ = some (.string qs) := r1.out.cell 6
 have y7 : W.cell? ⟨w.heap.size + 1, 7, none⟩ = some (.int .i64 qn) := r1.out.cell 7
 go_wp2_with fail
 refine (isKey_any tq tn tc bs kt ki W hh.out).mono ?_
 rintro e w1 ⟨rfl, hb⟩
 have hb' := Lib.hid (hbW.out.trans (hb.mono hbW.out.size))
 clear hb
 go_wp2
 go_ret
 exact ⟨rfl, hb'.out⟩
set_option maxHeartbeats 2000000 in
theorem isReq_4 (tq : Option Addr) (tn tc : Nat) (bs : List BdD) (kt ki tt ti qv : Int) (qs : ByteArray) (qn : Int) (w : World) (h : SchOn w tq tn tc bs) :
 Calls Try.prog 36 #[.agg #[.slice tq tn tc], .agg #[.int .i64 4, .int .i64 kt, .int .u16 ki, .int .i64 tt, .int .u16 ti, .int .i64 qv, .string qs, .int .i64 qn]] w (RqPost (reqB bs ⟨4, ⟨kt, ki⟩, ⟨tt, ti⟩, qv, qs, qn⟩) w) := by
 obtain ⟨W0, hW⟩ : ∃ W, (w.alloc (.cells #[.slice tq tn tc] 24)).alloc (.cells #[.int .i64 4, .int .i64 kt, .int .u16 ki, .int .i64 tt, .int .u16 ti, .int .i64 qv, .string qs, .int .i64 qn] 30) = W := ⟨_, rfl⟩
 have hbx := Lib.hid (two_rowsI (xs := [.slice tq tn tc]) (ys := [.int .i64 4, .int .i64 kt, .int .u16 ki, .int .i64 tt, .int .u16 ti, .int .i64 qv, .string qs, .int .i64 qn]) hW)
 have x0 : W0.cell? ⟨w.heap.size + 1, 0, none⟩ = some (.int .i64 4) := hbx.out.2.2.1.cell 0
 have x1 : W0.cell? ⟨w.heap.size + 1, 1, none⟩ = some (.int .i64 kt) := hbx.out.2.2.1.cell 1
 have x2 : W0.cell? ⟨w.heap.size + 1, 2, none⟩ = some (.int .u16 ki) := hbx.out.2.2.1.cell 2
 have x3 : W0.cell? ⟨w.heap.size + 1, 3, none⟩ = some (.int .i64 tt) := hbx.out.2.2.1.cell 3
 have x4 : W0.cell? ⟨w.heap.size + 1, 4, none⟩ = some (.int .u16 ti) := hbx.out.2.2.1.cell 4
 have x5 : W0.cell? ⟨w.heap.size + 1, 5, none⟩ = some (.int .i64 qv) := hbx.out.2.2.1.cell 5
 have x6 : W0.cell? ⟨w.heap.size + 1, 6, none⟩ = some (.string qs) := hbx.out.2.2.1.cell 6
 have x7 : W0.cell? ⟨w.heap.size + 1, 7, none⟩ = some (.int .i64 qn) := hbx.out.2.2.1.cell 7
 have hh0 := Lib.hid (h.below hbx.out.1 (Nat.le_refl _))
 clear h
 obtain ⟨⟨o0, ⟨oa, ob⟩, ⟨oc, od⟩, ov, os_, on⟩, ho⟩ : ∃ r, othR ⟨4, ⟨kt, ki⟩, ⟨tt, ti⟩, qv, qs, qn⟩ = r := ⟨_, rfl⟩
 have hot := others_any 4 kt ki tt ti qv qs qn W0
 rw [ho] at hot
 have hot := Lib.hid hot
 have hne := fun u => neq_reqZ u o0 oa ob oc od ov os_ on
 obtain ⟨Z, hZ⟩ : ∃ Z, zReq ⟨o0, ⟨oa, ob⟩, ⟨oc, od⟩, ov, os_, on⟩ = Z := ⟨_, rfl⟩
 rw [hZ] at hne
 have hq : reqB bs ⟨4, ⟨kt, ki⟩, ⟨tt, ti⟩, qv, qs, qn⟩ = (Z && cntB bs ⟨4, ⟨kt, ki⟩, ⟨tt, ti⟩, qv, qs, qn⟩) := by unfold reqB; rw [ho, hZ]
 rw [hq]
 clear hq hZ ho
 go_enter Try.func36, Try.ntmps36
 go_wp2_with fail
 clear hW x0 x1 x2 x3 x4 x5 x6 x7
 refine hot.out.mono ?_
 rintro e W ⟨rfl, hb⟩
 clear hot
 have hbW := Lib.hid (hbx.out.1.trans (hb.mono hbx.out.1.size))
 have hh := Lib.hid (hh0.out.below hb (Nat.le_refl _))
 have r0 := Lib.hid (hbx.out.2.1.below hb)
 have r1 := Lib.hid (hbx.out.2.2.1.below hb)
 clear hb hbx hh0
 have hne2 : ∀ u, (binOp .neq 30 (.agg (ReqD.cells ⟨o0, ⟨oa, ob⟩, ⟨oc, od⟩, ov, os_, on⟩).toArray) (.agg #[.int .i64 0, .int .i64 0, .int .u16 0, .int .i64 0, .int .u16 0, .int .i64 0, .string ⟨#[]⟩, .int .i64 0])).run Try.prog u = .ok (.bool (!Z)) u := hne
 clear hne
 cases Z with
 | false =>
   go_wp2
   go_ret
   exact ⟨rfl, hbW.out⟩
 | true =>
 have s0 : W.cell? ⟨w.heap.size, 0, none⟩ = some (.slice tq tn tc) := r0.out.cell 0
 have y0 : W.cell? ⟨w.heap.size + 1, 0, none⟩ = some (.int .i64 4) := r1.out.cell 0
 have y1 : W.cell? ⟨w.heap.size + 1, 1, none⟩ = some (.int .i64 kt) := r1.out.cell 1
 have y2 : W.cell? ⟨w.heap.size + 1, 2, none⟩ = some (.int .u16 ki) := r1.out.cell 2
 have y3 : W.cell? ⟨w.heap.size + 1, 3, none⟩ = some (.int .i64 tt) := r1.out.cell 3
 have y4 : W.cell? ⟨w.heap.size + 1, 4, none⟩ = some (.int .u16 ti) := r1.out.cell 4
 have y5 : W.cell? ⟨w.heap.size + 1, 5, none⟩ = some (.int .i64 qv) := r1.out.cell 5
 have y6 : W.cell? ⟨w.heap.size + 1, 6, none⟩ = some (.string qs) := r1.out.cell 6
 have y7 : W.cell? ⟨w.heap.size + 1, 7, none⟩ = some (.int .i64 qn) := r1.out.cell 7
 go_wp2_with fail
 refine (isKey_any tq tn tc bs kt ki W hh.out).mono ?_
 rintro e w1 ⟨rfl, hb⟩
 have hb' := Lib.hid (hbW.out.trans (hb.mono hbW.out.size))
 clear hb
 go_wp2
 go_ret
 exact ⟨rfl, hb'.out⟩
set_option maxHeartbeats 2000000 in
theorem isReq_6 (tq : Option Addr) (tn tc : Nat) (bs : List BdD) (kt ki tt ti qv : Int) (qs : ByteArray) (qn : Int) (w : World) (h : SchOn w tq tn tc bs) :
 Calls Try.prog 36 #[.agg #[.slice tq tn tc], .agg #[.int .i64 6, .int .i64 kt, .int .u16 ki, .int .i64 tt, .int .u16 ti, .int .i64 qv, .string qs, .int .i64 qn]] w (RqPost (reqB bs ⟨6, ⟨kt, ki⟩, ⟨tt, ti⟩, qv, qs, qn⟩) w) := by
 obtain ⟨W0, hW⟩ : ∃ W, (w.alloc (.cells #[.slice tq tn tc] 24)).alloc (.cells #[.int .i64 6, .int .i64 kt, .int .u16 ki, .int .i64 tt, .int .u16 ti, .int .i64 qv, .string qs, .int .i64 qn] 30) = W := ⟨_, rfl⟩
 have hbx := Lib.hid (two_rowsI (xs := [.slice tq tn tc]) (ys := [.int .i64 6, .int .i64 kt, .int .u16 ki, .int .i64 tt, .int .u16 ti, .int .i64 qv, .string qs, .int .i64 qn]) hW)
 have x0 : W0.cell? ⟨w.heap.size + 1, 0, none⟩ = some (.int .i64 6) := hbx.out.2.2.1.cell 0
 have x1 : W0.cell? ⟨w.heap.size + 1, 1, none⟩ = some (.int .i64 kt) := hbx.out.2.2.1.cell 1
 have x2 : W0.cell? ⟨w.heap.size + 1, 2, none⟩ = some (.int .u16 ki) := hbx.out.2.2.1.cell 2
 have x3 : W0.cell? ⟨w.heap.size + 1, 3, none⟩ = some (.int .i64 tt) := hbx.out.2.2.1.cell 3
 have x4 : W0.cell? ⟨w.heap.size + 1, 4, none⟩ = some (.int .u16 ti) := hbx.out.2.2.1.cell 4
 have x5 : W0.cell? ⟨w.heap.size + 1, 5, none⟩ = some (.int .i64 qv) := hbx.out.2.2.1.cell 5
 have x6 : W0.cell? ⟨w.heap.size + 1, 6, none⟩ = some (.string qs) := hbx.out.2.2.1.cell 6
 have x7 : W0.cell? ⟨w.heap.size + 1, 7, none⟩ = some (.int .i64 qn) := hbx.out.2.2.1.cell 7
 have hh0 := Lib.hid (h.below hbx.out.1 (Nat.le_refl _))
 clear h
 obtain ⟨⟨o0, ⟨oa, ob⟩, ⟨oc, od⟩, ov, os_, on⟩, ho⟩ : ∃ r, othR ⟨6, ⟨kt, ki⟩, ⟨tt, ti⟩, qv, qs, qn⟩ = r := ⟨_, rfl⟩
 have hot := others_any 6 kt ki tt ti qv qs qn W0
 rw [ho] at hot
 have hot := Lib.hid hot
 have hne := fun u => neq_reqZ u o0 oa ob oc od ov os_ on
 obtain ⟨Z, hZ⟩ : ∃ Z, zReq ⟨o0, ⟨oa, ob⟩, ⟨oc, od⟩, ov, os_, on⟩ = Z := ⟨_, rfl⟩
 rw [hZ] at hne
 have hq : reqB bs ⟨6, ⟨kt, ki⟩, ⟨tt, ti⟩, qv, qs, qn⟩ = (Z && cntB bs ⟨6, ⟨kt, ki⟩, ⟨tt, ti⟩, qv, qs, qn⟩) := by unfold reqB; rw [ho, hZ]
 rw [hq]
 clear hq hZ ho
 go_enter Try.func36, Try.ntmps36
 go_wp2_with fail
 clear hW x0 x1 x2 x3 x4 x5 x6 x7
 refine hot.out.mono ?_
 rintro e W ⟨rfl, hb⟩
 clear hot
 have hbW := Lib.hid (hbx.out.1.trans (hb.mono hbx.out.1.size))
 have hh := Lib.hid (hh0.out.below hb (Nat.le_refl _))
 have r0 := Lib.hid (hbx.out.2.1.below hb)
 have r1 := Lib.hid (hbx.out.2.2.1.below hb)
 clear hb hbx hh0
 have hne2 : ∀ u, (binOp .neq 30 (.agg (ReqD.cells ⟨o0, ⟨oa, ob⟩, ⟨oc, od⟩, ov, os_, on⟩).toArray) (.agg #[.int .i64 0, .int .i64 0, .int .u16 0, .int .i64 0, .int .u16 0, .int .i64 0, .string ⟨#[]⟩, .int .i64 0])).run Try.prog u = .ok (.bool (!Z)) u := hne
 clear hne
 cases Z with
 | false =>
   go_wp2
   go_ret
   exact ⟨rfl, hbW.out⟩
 | true =>
 have s0 : W.cell? ⟨w.heap.size, 0, none⟩ = some (.slice tq tn tc) := r0.out.cell 0
 have y0 : W.cell? ⟨w.heap.size + 1, 0, none⟩ = some (.int .i64 6) := r1.out.cell 0
 have y1 : W.cell? ⟨w.heap.size + 1, 1, none⟩ = some (.int .i64 kt) := r1.out.cell 1
 have y2 : W.cell? ⟨w.heap.size + 1, 2, none⟩ = some (.int .u16 ki) := r1.out.cell 2
 have y3 : W.cell? ⟨w.heap.size + 1, 3, none⟩ = some (.int .i64 tt) := r1.out.cell 3
 have y4 : W.cell? ⟨w.heap.size + 1, 4, none⟩ = some (.int .u16 ti) := r1.out.cell 4
 have y5 : W.cell? ⟨w.heap.size + 1, 5, none⟩ = some (.int .i64 qv) := r1.out.cell 5
 have y6 : W.cell? ⟨w.heap.size + 1, 6, none⟩ = some (.string qs) := r1.out.cell 6
 have y7 : W.cell? ⟨w.heap.size + 1, 7, none⟩ = some (.int .i64 qn) := r1.out.cell 7
 go_wp2_with fail
 refine (isKey_any tq tn tc bs kt ki W hh.out).mono ?_
 rintro e w1 ⟨rfl, hb⟩
 have hb' := Lib.hid (hbW.out.trans (hb.mono hbW.out.size))
 clear hb
 go_wp2
 go_ret
 exact ⟨rfl, hb'.out⟩
set_option maxHeartbeats 2000000 in
theorem isReq_7 (tq : Option Addr) (tn tc : Nat) (bs : List BdD) (kt ki tt ti qv : Int) (qs : ByteArray) (qn : Int) (w : World) (h : SchOn w tq tn tc bs) :
 Calls Try.prog 36 #[.agg #[.slice tq tn tc], .agg #[.int .i64 7, .int .i64 kt, .int .u16 ki, .int .i64 tt, .int .u16 ti, .int .i64 qv, .string qs, .int .i64 qn]] w (RqPost (reqB bs ⟨7, ⟨kt, ki⟩, ⟨tt, ti⟩, qv, qs, qn⟩) w) := by
 obtain ⟨W0, hW⟩ : ∃ W, (w.alloc (.cells #[.slice tq tn tc] 24)).alloc (.cells #[.int .i64 7, .int .i64 kt, .int .u16 ki, .int .i64 tt, .int .u16 ti, .int .i64 qv, .string qs, .int .i64 qn] 30) = W := ⟨_, rfl⟩
 have hbx := Lib.hid (two_rowsI (xs := [.slice tq tn tc]) (ys := [.int .i64 7, .int .i64 kt, .int .u16 ki, .int .i64 tt, .int .u16 ti, .int .i64 qv, .string qs, .int .i64 qn]) hW)
 have x0 : W0.cell? ⟨w.heap.size + 1, 0, none⟩ = some (.int .i64 7) := hbx.out.2.2.1.cell 0
 have x1 : W0.cell? ⟨w.heap.size + 1, 1, none⟩ = some (.int .i64 kt) := hbx.out.2.2.1.cell 1
 have x2 : W0.cell? ⟨w.heap.size + 1, 2, none⟩ = some (.int .u16 ki) := hbx.out.2.2.1.cell 2
 have x3 : W0.cell? ⟨w.heap.size + 1, 3, none⟩ = some (.int .i64 tt) := hbx.out.2.2.1.cell 3
 have x4 : W0.cell? ⟨w.heap.size + 1, 4, none⟩ = some (.int .u16 ti) := hbx.out.2.2.1.cell 4
 have x5 : W0.cell? ⟨w.heap.size + 1, 5, none⟩ = some (.int .i64 qv) := hbx.out.2.2.1.cell 5
 have x6 : W0.cell? ⟨w.heap.size + 1, 6, none⟩ = some (.string qs) := hbx.out.2.2.1.cell 6
 have x7 : W0.cell? ⟨w.heap.size + 1, 7, none⟩ = some (.int .i64 qn) := hbx.out.2.2.1.cell 7
 have hh0 := Lib.hid (h.below hbx.out.1 (Nat.le_refl _))
 clear h
 obtain ⟨⟨o0, ⟨oa, ob⟩, ⟨oc, od⟩, ov, os_, on⟩, ho⟩ : ∃ r, othR ⟨7, ⟨kt, ki⟩, ⟨tt, ti⟩, qv, qs, qn⟩ = r := ⟨_, rfl⟩
 have hot := others_any 7 kt ki tt ti qv qs qn W0
 rw [ho] at hot
 have hot := Lib.hid hot
 have hne := fun u => neq_reqZ u o0 oa ob oc od ov os_ on
 obtain ⟨Z, hZ⟩ : ∃ Z, zReq ⟨o0, ⟨oa, ob⟩, ⟨oc, od⟩, ov, os_, on⟩ = Z := ⟨_, rfl⟩
 rw [hZ] at hne
 have hq : reqB bs ⟨7, ⟨kt, ki⟩, ⟨tt, ti⟩, qv, qs, qn⟩ = (Z && cntB bs ⟨7, ⟨kt, ki⟩, ⟨tt, ti⟩, qv, qs, qn⟩) := by unfold reqB; rw [ho, hZ]
 rw [hq]
 clear hq hZ ho
 go_enter Try.func36, Try.ntmps36
 go_wp2_with fail
 clear hW x0 x1 x2 x3 x4 x5 x6 x7
 refine hot.out.mono ?_
 rintro e W ⟨rfl, hb⟩
 clear hot
 have hbW := Lib.hid (hbx.out.1.trans (hb.mono hbx.out.1.size))
 have hh := Lib.hid (hh0.out.below hb (Nat.le_refl _))
 have r0 := Lib.hid (hbx.out.2.1.below hb)
 have r1 := Lib.hid (hbx.out.2.2.1.below hb)
 clear hb hbx hh0
 have hne2 : ∀ u, (binOp .neq 30 (.agg (ReqD.cells ⟨o0, ⟨oa, ob⟩, ⟨oc, od⟩, ov, os_, on⟩).toArray) (.agg #[.int .i64 0, .int .i64 0, .int .u16 0, .int .i64 0, .int .u16 0, .int .i64 0, .string ⟨#[]⟩, .int .i64 0])).run Try.prog u = .ok (.bool (!Z)) u := hne
 clear hne
 cases Z with
 | false =>
   go_wp2
   go_ret
   exact ⟨rfl, hbW.out⟩
 | true =>
 have s0 : W.cell? ⟨w.heap.size, 0, none⟩ = some (.slice tq tn tc) := r0.out.cell 0
 have y0 : W.cell? ⟨w.heap.size + 1, 0, none⟩ = some (.int .i64 7) := r1.out.cell 0
 have y1 : W.cell? ⟨w.heap.size + 1, 1, none⟩ = some (.int .i64 kt) := r1.out.cell 1
 have y2 : W.cell? ⟨w.heap.size + 1, 2, none⟩ = some (.int .u16 ki) := r1.out.cell 2
 have y3 : W.cell? ⟨w.heap.size + 1, 3, none⟩ = some (.int .i64 tt) := r1.out.cell 3
 have y4 : W.cell? ⟨w.heap.size + 1, 4, none⟩ = some (.int .u16 ti) := r1.out.cell 4
 have y5 : W.cell? ⟨w.heap.size + 1, 5, none⟩ = some (.int .i64 qv) := r1.out.cell 5
 have y6 : W.cell? ⟨w.heap.size + 1, 6, none⟩ = some (.string qs) := r1.out.cell 6
 have y7 : W.cell? ⟨w.heap.size + 1, 7, none⟩ = some (.int .i64 qn) := r1.out.cell 7
 go_wp2_with fail
 refine (isKey_any tq tn tc bs kt ki W hh.out).mono ?_
 rintro e w1 ⟨rfl, hb⟩
 have hb' := Lib.hid (hbW.out.trans (hb.mono hbW.out.size))
 clear hb
 go_wp2
 go_ret
 exact ⟨rfl, hb'.out⟩
set_option maxHeartbeats 2000000 in
theorem isReq_9 (tq : Option Addr) (tn tc : Nat) (bs : List BdD) (kt ki tt ti qv : Int) (qs : ByteArray) (qn : Int) (w : World) (h : SchOn w tq tn tc bs) :
 Calls Try.prog 36 #[.agg #[.slice tq tn tc], .agg #[.int .i64 9, .int .i64 kt, .int .u16 ki, .int .i64 tt, .int .u16 ti, .int .i64 qv, .string qs, .int .i64 qn]] w (RqPost (reqB bs ⟨9, ⟨kt, ki⟩, ⟨tt, ti⟩, qv, qs, qn⟩) w) := by
 obtain ⟨W0, hW⟩ : ∃ W, (w.alloc (.cells #[.slice tq tn tc] 24)).alloc (.cells #[.int .i64 9, .int .i64 kt, .int .u16 ki, .int .i64 tt, .int .u16 ti, .int .i64 qv, .string qs, .int .i64 qn] 30) = W := ⟨_, rfl⟩
 have hbx := Lib.hid (two_rowsI (xs := [.slice tq tn tc]) (ys := [.int .i64 9, .int .i64 kt, .int .u16 ki, .int .i64 tt, .int .u16 ti, .int .i64 qv, .string qs, .int .i64 qn]) hW)
 have x0 : W0.cell? ⟨w.heap.size + 1, 0, none⟩ = some (.int .i64 9) := hbx.out.2.2.1.cell 0
 have x1 : W0.cell? ⟨w.heap.size + 1, 1, none⟩ = some (.int .i64 kt) := hbx.out.2.2.1.cell 1
 have x2 : W0.cell? ⟨w.heap.size + 1, 2, none⟩ = some (.int .u16 ki) := hbx.out.2.2.1.cell 2
 have x3 : W0.cell? ⟨w.heap.size + 1, 3, none⟩ = some (.int .i64 tt) := hbx.out.2.2.1.cell 3
 have x4 : W0.cell? ⟨w.heap.size + 1, 4, none⟩ = some (.int .u16 ti) := hbx.out.2.2.1.cell 4
 have x5 : W0.cell? ⟨w.heap.size + 1, 5, none⟩ = some (.int .i64 qv) := hbx.out.2.2.1.cell 5
 have x6 : W0.cell? ⟨w.heap.size + 1, 6, none⟩ = some (.string qs) := hbx.out.2.2.1.cell 6
 have x7 : W0.cell? ⟨w.heap.size + 1, 7, none⟩ = some (.int .i64 qn) := hbx.out.2.2.1.cell 7
 have hh0 := Lib.hid (h.below hbx.out.1 (Nat.le_refl _))
 clear h
 obtain ⟨⟨o0, ⟨oa, ob⟩, ⟨oc, od⟩, ov, os_, on⟩, ho⟩ : ∃ r, othR ⟨9, ⟨kt, ki⟩, ⟨tt, ti⟩, qv, qs, qn⟩ = r := ⟨_, rfl⟩
 have hot := others_any 9 kt ki tt ti qv qs qn W0
 rw [ho] at hot
 have hot := Lib.hid hot
 have hne := fun u => neq_reqZ u o0 oa ob oc od ov os_ on
 obtain ⟨Z, hZ⟩ : ∃ Z, zReq ⟨o0, ⟨oa, ob⟩, ⟨oc, od⟩, ov, os_, on⟩ = Z := ⟨_, rfl⟩
 rw [hZ] at hne
 have hq : reqB bs ⟨9, ⟨kt, ki⟩, ⟨tt, ti⟩, qv, qs, qn⟩ = (Z && cntB bs ⟨9, ⟨kt, ki⟩, ⟨tt, ti⟩, qv, qs, qn⟩) := by unfold reqB; rw [ho, hZ]
 rw [hq]
 clear hq hZ ho
 go_enter Try.func36, Try.ntmps36
 go_wp2_with fail
 clear hW x0 x1 x2 x3 x4 x5 x6 x7
 refine hot.out.mono ?_
 rintro e W ⟨rfl, hb⟩
 clear hot
 have hbW := Lib.hid (hbx.out.1.trans (hb.mono hbx.out.1.size))
 have hh := Lib.hid (hh0.out.below hb (Nat.le_refl _))
 have r0 := Lib.hid (hbx.out.2.1.below hb)
 have r1 := Lib.hid (hbx.out.2.2.1.below hb)
 clear hb hbx hh0
 have hne2 : ∀ u, (binOp .neq 30 (.agg (ReqD.cells ⟨o0, ⟨oa, ob⟩, ⟨oc, od⟩, ov, os_, on⟩).toArray) (.agg #[.int .i64 0, .int .i64 0, .int .u16 0, .int .i64 0, .int .u16 0, .int .i64 0, .string ⟨#[]⟩, .int .i64 0])).run Try.prog u = .ok (.bool (!Z)) u := hne
 clear hne
 cases Z with
 | false =>
   go_wp2
   go_ret
   exact ⟨rfl, hbW.out⟩
 | true =>
 have s0 : W.cell? ⟨w.heap.size, 0, none⟩ = some (.slice tq tn tc) := r0.out.cell 0
 have y0 : W.cell? ⟨w.heap.size + 1, 0, none⟩ = some (.int .i64 9) := r1.out.cell 0
 have y1 : W.cell? ⟨w.heap.size + 1, 1, none⟩ = some (.int .i64 kt) := r1.out.cell 1
 have y2 : W.cell? ⟨w.heap.size + 1, 2, none⟩ = some (.int .u16 ki) := r1.out.cell 2
 have y3 : W.cell? ⟨w.heap.size + 1, 3, none⟩ = some (.int .i64 tt) := r1.out.cell 3
 have y4 : W.cell? ⟨w.heap.size + 1, 4, none⟩ = some (.int .u16 ti) := r1.out.cell 4
 have y5 : W.cell? ⟨w.heap.size + 1, 5, none⟩ = some (.int .i64 qv) := r1.out.cell 5
 have y6 : W.cell? ⟨w.heap.size + 1, 6, none⟩ = some (.string qs) := r1.out.cell 6
 have y7 : W.cell? ⟨w.heap.size + 1, 7, none⟩ = some (.int .i64 qn) := r1.out.cell 7
 go_wp2
 go_ret
 exact ⟨rfl, hbW.out⟩
set_option maxHeartbeats 2000000 in
theorem isReq_11 (tq : Option Addr) (tn tc : Nat) (bs : List BdD) (kt ki tt ti qv : Int) (qs : ByteArray) (qn : Int) (w : World) (h : SchOn w tq tn tc bs) :
 Calls Try.prog 36 #[.agg #[.slice tq tn tc], .agg #[.int .i64 11, .int .i64 kt, .int .u16 ki, .int .i64 tt, .int .u16 ti, .int .i64 qv, .string qs, .int .i64 qn]] w (RqPost (reqB bs ⟨11, ⟨kt, ki⟩, ⟨tt, ti⟩, qv, qs, qn⟩) w) := by
 obtain ⟨W0, hW⟩ : ∃ W, (w.alloc (.cells #[.slice tq tn tc] 24)).alloc (.cells #[.int .i64 11, .int .i64 kt, .int .u16 ki, .int .i64 tt, .int .u16 ti, .int .i64 qv, .string qs, .int .i64 qn] 30) = W := ⟨_, rfl⟩
 have hbx := Lib.hid (two_rowsI (xs := [.slice tq tn tc]) (ys := [.int .i64 11, .int .i64 kt, .int .u16 ki, .int .i64 tt, .int .u16 ti, .int .i64 qv, .string qs, .int .i64 qn]) hW)
 have x0 : W0.cell? ⟨w.heap.size + 1, 0, none⟩ = some (.int .i64 11) := hbx.out.2.2.1.cell 0
 have x1 : W0.cell? ⟨w.heap.size + 1, 1, none⟩ = some (.int .i64 kt) := hbx.out.2.2.1.cell 1
 have x2 : W0.cell? ⟨w.heap.size + 1, 2, none⟩ = some (.int .u16 ki) := hbx.out.2.2.1.cell 2
 have x3 : W0.cell? ⟨w.heap.size + 1, 3, none⟩ = some (.int .i64 tt) := hbx.out.2.2.1.cell 3
 have x4 : W0.cell? ⟨w.heap.size + 1, 4, none⟩ = some (.int .u16 ti) := hbx.out.2.2.1.cell 4
 have x5 : W0.cell? ⟨w.heap.size + 1, 5, none⟩ = some (.int .i64 qv) := hbx.out.2.2.1.cell 5
 have x6 : W0.cell? ⟨w.heap.size + 1, 6, none⟩ = some (.string qs) := hbx.out.2.2.1.cell 6
 have x7 : W0.cell? ⟨w.heap.size + 1, 7, none⟩ = some (.int .i64 qn) := hbx.out.2.2.1.cell 7
 have hh0 := Lib.hid (h.below hbx.out.1 (Nat.le_refl _))
 clear h
 obtain ⟨⟨o0, ⟨oa, ob⟩, ⟨oc, od⟩, ov, os_, on⟩, ho⟩ : ∃ r, othR ⟨11, ⟨kt, ki⟩, ⟨tt, ti⟩, qv, qs, qn⟩ = r := ⟨_, rfl⟩
 have hot := others_any 11 kt ki tt ti qv qs qn W0
 rw [ho] at hot
 have hot := Lib.hid hot
 have hne := fun u => neq_reqZ u o0 oa ob oc od ov os_ on
 obtain ⟨Z, hZ⟩ : ∃ Z, zReq ⟨o0, ⟨oa, ob⟩, ⟨oc, od⟩, ov, os_, on⟩ = Z := ⟨_, rfl⟩
 rw [hZ] at hne
 have hq : reqB bs ⟨11, ⟨kt, ki⟩, ⟨tt, ti⟩, qv, qs, qn⟩ = (Z && cntB bs ⟨11, ⟨kt, ki⟩, ⟨tt, ti⟩, qv, qs, qn⟩) := by unfold reqB; rw [ho, hZ]
 rw [hq]
 clear hq hZ ho
 go_enter Try.func36, Try.ntmps36
 go_wp2_with fail
 clear hW x0 x1 x2 x3 x4 x5 x6 x7
 refine hot.out.mono ?_
 rintro e W ⟨rfl, hb⟩
 clear hot
 have hbW := Lib.hid (hbx.out.1.trans (hb.mono hbx.out.1.size))
 have hh := Lib.hid (hh0.out.below hb (Nat.le_refl _))
 have r0 := Lib.hid (hbx.out.2.1.below hb)
 have r1 := Lib.hid (hbx.out.2.2.1.below hb)
 clear hb hbx hh0
 have hne2 : ∀ u, (binOp .neq 30 (.agg (ReqD.cells ⟨o0, ⟨oa, ob⟩, ⟨oc, od⟩, ov, os_, on⟩).toArray) (.agg #[.int .i64 0, .int .i64 0, .int .u16 0, .int .i64 0, .int .u16 0, .int .i64 0, .string ⟨#[]⟩, .int .i64 0])).run Try.prog u = .ok (.bool (!Z)) u := hne
 clear hne
 cases Z with
 | false =>
   go_wp2
   go_ret
   exact ⟨rfl, hbW.out⟩
 | true =>
 have s0 : W.cell? ⟨w.heap.size, 0, none⟩ = some (.slice tq tn tc) := r0.out.cell 0
 have y0 : W.cell? ⟨w.heap.size + 1, 0, none⟩ = some (.int .i64 11) := r1.out.cell 0
 have y1 : W.cell? ⟨w.heap.size + 1, 1, none⟩ = some (.int .i64 kt) := r1.out.cell 1
 have y2 : W.cell? ⟨w.heap.size + 1, 2, none⟩ = some (.int .u16 ki) := r1.out.cell 2
 have y3 : W.cell? ⟨w.heap.size + 1, 3, none⟩ = some (.int .i64 tt) := r1.out.cell 3
 have y4 : W.cell? ⟨w.heap.size + 1, 4, none⟩ = some (.int .u16 ti) := r1.out.cell 4
 have y5 : W.cell? ⟨w.heap.size + 1, 5, none⟩ = some (.int .i64 qv) := r1.out.cell 5
 have y6 : W.cell? ⟨w.heap.size + 1, 6, none⟩ = some (.string qs) := r1.out.cell 6
 have y7 : W.cell? ⟨w.heap.size + 1, 7, none⟩ = some (.int .i64 qn) := r1.out.cell 7
 go_wp2
 go_ret
 exact ⟨rfl, hbW.out⟩
set_option maxHeartbeats 2000000 in
theorem isReq_12 (tq : Option Addr) (tn tc : Nat) (bs : List BdD) (kt ki tt ti qv : Int) (qs : ByteArray) (qn : Int) (w : World) (h : SchOn w tq tn tc bs) :
 Calls Try.prog 36 #[.agg #[.slice tq tn tc], .agg #[.int .i64 12, .int .i64 kt, .int .u16 ki, .int .i64 tt, .int .u16 ti, .int .i64 qv, .string qs, .int .i64 qn]] w (RqPost (reqB bs ⟨12, ⟨kt, ki⟩, ⟨tt, ti⟩, qv, qs, qn⟩) w) := by
 obtain ⟨W0, hW⟩ : ∃ W, (w.alloc (.cells #[.slice tq tn tc] 24)).alloc (.cells #[.int .i64 12, .int .i64 kt, .int .u16 ki, .int .i64 tt, .int .u16 ti, .int .i64 qv, .string qs, .int .i64 qn] 30) = W := ⟨_, rfl⟩
 have hbx := Lib.hid (two_rowsI (xs := [.slice tq tn tc]) (ys := [.int .i64 12, .int .i64 kt, .int .u16 ki, .int .i64 tt, .int .u16 ti, .int .i64 qv, .string qs, .int .i64 qn]) hW)
 have x0 : W0.cell? ⟨w.heap.size + 1, 0, none⟩ = some (.int .i64 12) := hbx.out.2.2.1.cell 0
 have x1 : W0.cell? ⟨w.heap.size + 1, 1, none⟩ = some (.int .i64 kt) := hbx.out.2.2.1.cell 1
 have x2 : W0.cell? ⟨w.heap.size + 1, 2, none⟩ = some (.int .u16 ki) := hbx.out.2.2.1.cell 2
 have x3 : W0.cell? ⟨w.heap.size + 1, 3, none⟩ = some (.int .i64 tt) := hbx.out.2.2.1.cell 3
 have x4 : W0.cell? ⟨w.heap.size + 1, 4, none⟩ = some (.int .u16 ti) := hbx.out.2.2.1.cell 4
 have x5 : W0.cell? ⟨w.heap.size + 1, 5, none⟩ = some (.int .i64 qv) := hbx.out.2.2.1.cell 5
 have x6 : W0.cell? ⟨w.heap.size + 1, 6, none⟩ = some (.string qs) := hbx.out.2.2.1.cell 6
 have x7 : W0.cell? ⟨w.heap.size + 1, 7, none⟩ = some (.int .i64 qn) := hbx.out.2.2.1.cell 7
 have hh0 := Lib.hid (h.below hbx.out.1 (Nat.le_refl _))
 clear h
 obtain ⟨⟨o0, ⟨oa, ob⟩, ⟨oc, od⟩, ov, os_, on⟩, ho⟩ : ∃ r, othR ⟨12, ⟨kt, ki⟩, ⟨tt, ti⟩, qv, qs, qn⟩ = r := ⟨_, rfl⟩
 have hot := others_any 12 kt ki tt ti qv qs qn W0
 rw [ho] at hot
 have hot := Lib.hid hot
 have hne := fun u => neq_reqZ u o0 oa ob oc od ov os_ on
 obtain ⟨Z, hZ⟩ : ∃ Z, zReq ⟨o0, ⟨oa, ob⟩, ⟨oc, od⟩, ov, os_, on⟩ = Z := ⟨_, rfl⟩
 rw [hZ] at hne
 have hq : reqB bs ⟨12, ⟨kt, ki⟩, ⟨tt, ti⟩, qv, qs, qn⟩ = (Z && cntB bs ⟨12, ⟨kt, ki⟩, ⟨tt, ti⟩, qv, qs, qn⟩) := by unfold reqB; rw [ho, hZ]
 rw [hq]
 clear hq hZ ho
 go_enter Try.func36, Try.ntmps36
 go_wp2_with fail
 clear hW x0 x1 x2 x3 x4 x5 x6 x7
 refine hot.out.mono ?_
 rintro e W ⟨rfl, hb⟩
 clear hot
 have hbW := Lib.hid (hbx.out.1.trans (hb.mono hbx.out.1.size))
 have hh := Lib.hid (hh0.out.below hb (Nat.le_refl _))
 have r0 := Lib.hid (hbx.out.2.1.below hb)
 have r1 := Lib.hid (hbx.out.2.2.1.below hb)
 clear hb hbx hh0
 have hne2 : ∀ u, (binOp .neq 30 (.agg (ReqD.cells ⟨o0, ⟨oa, ob⟩, ⟨oc, od⟩, ov, os_, on⟩).toArray) (.agg #[.int .i64 0, .int .i64 0, .int .u16 0, .int .i64 0, .int .u16 0, .int .i64 0, .string ⟨#[]⟩, .int .i64 0])).run Try.prog u = .ok (.bool (!Z)) u := hne
 clear hne
 cases Z with
 | false =>
   go_wp2
   go_ret
   exact ⟨rfl, hbW.out⟩
 | true =>
 have s0 : W.cell? ⟨w.heap.size, 0, none⟩ = some (.slice tq tn tc) := r0.out.cell 0
 have y0 : W.cell? ⟨w.heap.size + 1, 0, none⟩ = some (.int .i64 12) := r1.out.cell 0
 have y1 : W.cell? ⟨w.heap.size + 1, 1, none⟩ = some (.int .i64 kt) := r1.out.cell 1
 have y2 : W.cell? ⟨w.heap.size + 1, 2, none⟩ = some (.int .u16 ki) := r1.out.cell 2
 have y3 : W.cell? ⟨w.heap.size + 1, 3, none⟩ = some (.int .i64 tt) := r1.out.cell 3
 have y4 : W.cell? ⟨w.heap.size + 1, 4, none⟩ = some (.int .u16 ti) := r1.out.cell 4
 have y5 : W.cell? ⟨w.heap.size + 1, 5, none⟩ = some (.int .i64 qv) := r1.out.cell 5
 have y6 : W.cell? ⟨w.heap.size + 1, 6, none⟩ = some (.string qs) := r1.out.cell 6
 have y7 : W.cell? ⟨w.heap.size + 1, 7, none⟩ = some (.int .i64 qn) := r1.out.cell 7
 go_wp2
 go_ret
 exact ⟨rfl, hbW.out⟩
set_option maxHeartbeats 2000000 in
theorem isReq_10 (tq : Option Addr) (tn tc : Nat) (bs : List BdD) (kt ki tt ti qv : Int) (qs : ByteArray) (qn : Int) (w : World) (h : SchOn w tq tn tc bs) :
 Calls Try.prog 36 #[.agg #[.slice tq tn tc], .agg #[.int .i64 10, .int .i64 kt, .int .u16 ki, .int .i64 tt, .int .u16 ti, .int .i64 qv, .string qs, .int .i64 qn]] w (RqPost (reqB bs ⟨10, ⟨kt, ki⟩, ⟨tt, ti⟩, qv, qs, qn⟩) w) := by
 obtain ⟨W0, hW⟩ : ∃ W, (w.alloc (.cells #[.slice tq tn tc] 24)).alloc (.cells #[.int .i64 10, .int .i64 kt, .int .u16 ki, .int .i64 tt, .int .u16 ti, .int .i64 qv, .string qs, .int .i64 qn] 30) = W := ⟨_, rfl⟩
 have hbx := Lib.hid (two_rowsI (xs := [.slice tq tn tc]) (ys := [.int .i64 10, .int .i64 kt, .int .u16 ki, .int .i64 tt, .int .u16 ti, .int .i64 qv, .string qs, .int .i64 qn]) hW)
 have x0 : W0.cell? ⟨w.heap.size + 1, 0, none⟩ = some (.int .i64 10) := hbx.out.2.2.1.cell 0
 have x1 : W0.cell? ⟨w.heap.size + 1, 1, none⟩ = some (.int .i64 kt) := hbx.out.2.2.1.cell 1
 have x2 : W0.cell? ⟨w.heap.size + 1, 2, none⟩ = some (.int .u16 ki) := hbx.out.2.2.1.cell 2
 have x3 : W0.cell? ⟨w.heap.size + 1, 3, none⟩ = some (.int .i64 tt) := hbx.out.2.2.1.cell 3
 have x4 : W0.cell? ⟨w.heap.size + 1, 4, none⟩ = some (.int .u16 ti) := hbx.out.2.2.1.cell 4
 have x5 : W0.cell? ⟨w.heap.size + 1, 5, none⟩ = some (.int .i64 qv) := hbx.out.2.2.1.cell 5
 have x6 : W0.cell? ⟨w.heap.size + 1, 6, none⟩ = some (.string qs) := hbx.out.2.2.1.cell 6
 have x7 : W0.cell? ⟨w.heap.size + 1, 7, none⟩ = some (.int .i64 qn) := hbx.out.2.2.1.cell 7
 have hh0 := Lib.hid (h.below hbx.out.1 (Nat.le_refl _))
 clear h
 obtain ⟨⟨o0, ⟨oa, ob⟩, ⟨oc, od⟩, ov, os_, on⟩, ho⟩ : ∃ r, othR ⟨10, ⟨kt, ki⟩, ⟨tt, ti⟩, qv, qs, qn⟩ = r := ⟨_, rfl⟩
 have hot := others_any 10 kt ki tt ti qv qs qn W0
 rw [ho] at hot
 have hot := Lib.hid hot
 have hne := fun u => neq_reqZ u o0 oa ob oc od ov os_ on
 obtain ⟨Z, hZ⟩ : ∃ Z, zReq ⟨o0, ⟨oa, ob⟩, ⟨oc, od⟩, ov, os_, on⟩ = Z := ⟨_, rfl⟩
 rw [hZ] at hne
 have hq : reqB bs ⟨10, ⟨kt, ki⟩, ⟨tt, ti⟩, qv, qs, qn⟩ = (Z && cntB bs ⟨10, ⟨kt, ki⟩, ⟨tt, ti⟩, qv, qs, qn⟩) := by unfold reqB; rw [ho, hZ]
 rw [hq]
 clear hq hZ ho
 go_enter Try.func36, Try.ntmps36
 go_wp2_with fail
 clear hW x0 x1 x2 x3 x4 x5 x6 x7
 refine hot.out.mono ?_
 rintro e W ⟨rfl, hb⟩
 clear hot
 have hbW := Lib.hid (hbx.out.1.trans (hb.mono hbx.out.1.size))
 have hh := Lib.hid (hh0.out.below hb (Nat.le_refl _))
 have r0 := Lib.hid (hbx.out.2.1.below hb)
 have r1 := Lib.hid (hbx.out.2.2.1.below hb)
 clear hb hbx hh0
 have hne2 : ∀ u, (binOp .neq 30 (.agg (ReqD.cells ⟨o0, ⟨oa, ob⟩, ⟨oc, od⟩, ov, os_, on⟩).toArray) (.agg #[.int .i64 0, .int .i64 0, .int .u16 0, .int .i64 0, .int .u16 0, .int .i64 0, .string ⟨#[]⟩, .int .i64 0])).run Try.prog u = .ok (.bool (!Z)) u := hne
 clear hne
 cases Z with
 | false =>
   go_wp2
   go_ret
   exact ⟨rfl, hbW.out⟩
 | true =>
 have s0 : W.cell? ⟨w.heap.size, 0, none⟩ = some (.slice tq tn tc) := r0.out.cell 0
 have y0 : W.cell? ⟨w.heap.size + 1, 0, none⟩ = some (.int .i64 10) := r1.out.cell 0
 have y1 : W.cell? ⟨w.heap.size + 1, 1, none⟩ = some (.int .i64 kt) := r1.out.cell 1
 have y2 : W.cell? ⟨w.heap.size + 1, 2, none⟩ = some (.int .u16 ki) := r1.out.cell 2
 have y3 : W.cell? ⟨w.heap.size + 1, 3, none⟩ = some (.int .i64 tt) := r1.out.cell 3
 have y4 : W.cell? ⟨w.heap.size + 1, 4, none⟩ = some (.int .u16 ti) := r1.out.cell 4
 have y5 : W.cell? ⟨w.heap.size + 1, 5, none⟩ = some (.int .i64 qv) := r1.out.cell 5
 have y6 : W.cell? ⟨w.heap.size + 1, 6, none⟩ = some (.string qs) := r1.out.cell 6
 have y7 : W.cell? ⟨w.heap.size + 1, 7, none⟩ = some (.int .i64 qn) := r1.out.cell 7
 go_wp2
 go_ret
 exact ⟨rfl, hbW.out⟩
set_option maxHeartbeats 2000000 in
theorem isReq_no (tq : Option Addr) (tn tc : Nat) (bs : List BdD) (qk : Int) (kt ki tt ti qv : Int) (qs : ByteArray) (qn : Int) (w : World) (h : SchOn w tq tn tc bs) (hk : ¬ (1 ≤ qk ∧ qk ≤ 12)) :
 Calls Try.prog 36 #[.agg #[.slice tq tn tc], .agg #[.int .i64 qk, .int .i64 kt, .int .u16 ki, .int .i64 tt, .int .u16 ti, .int .i64 qv, .string qs, .int .i64 qn]] w (RqPost (reqB bs ⟨qk, ⟨kt, ki⟩, ⟨tt, ti⟩, qv, qs, qn⟩) w) := by
 obtain ⟨W0, hW⟩ : ∃ W, (w.alloc (.cells #[.slice tq tn tc] 24)).alloc (.cells #[.int .i64 qk, .int .i64 kt, .int .u16 ki, .int .i64 tt, .int .u16 ti, .int .i64 qv, .string qs, .int .i64 qn] 30) = W := ⟨_, rfl⟩
 have hbx := Lib.hid (two_rowsI (xs := [.slice tq tn tc]) (ys := [.int .i64 qk, .int .i64 kt, .int .u16 ki, .int .i64 tt, .int .u16 ti, .int .i64 qv, .string qs, .int .i64 qn]) hW)
 have x0 : W0.cell? ⟨w.heap.size + 1, 0, none⟩ = some (.int .i64 qk) := hbx.out.2.2.1.cell 0
 have x1 : W0.cell? ⟨w.heap.size + 1, 1, none⟩ = some (.int .i64 kt) := hbx.out.2.2.1.cell 1
 have x2 : W0.cell? ⟨w.heap.size + 1, 2, none⟩ = some (.int .u16 ki) := hbx.out.2.2.1.cell 2
 have x3 : W0.cell? ⟨w.heap.size + 1, 3, none⟩ = some (.int .i64 tt) := hbx.out.2.2.1.cell 3
 have x4 : W0.cell? ⟨w.heap.size + 1, 4, none⟩ = some (.int .u16 ti) := hbx.out.2.2.1.cell 4
 have x5 : W0.cell? ⟨w.heap.size + 1, 5, none⟩ = some (.int .i64 qv) := hbx.out.2.2.1.cell 5
 have x6 : W0.cell? ⟨w.heap.size + 1, 6, none⟩ = some (.string qs) := hbx.out.2.2.1.cell 6
 have x7 : W0.cell? ⟨w.heap.size + 1, 7, none⟩ = some (.int .i64 qn) := hbx.out.2.2.1.cell 7
 have hh0 := Lib.hid (h.below hbx.out.1 (Nat.le_refl _))
 clear h
 obtain ⟨⟨o0, ⟨oa, ob⟩, ⟨oc, od⟩, ov, os_, on⟩, ho⟩ : ∃ r, othR ⟨qk, ⟨kt, ki⟩, ⟨tt, ti⟩, qv, qs, qn⟩ = r := ⟨_, rfl⟩
 have hot := others_any qk kt ki tt ti qv qs qn W0
 rw [ho] at hot
 have hot := Lib.hid hot
 have hne := fun u => neq_reqZ u o0 oa ob oc od ov os_ on
 obtain ⟨Z, hZ⟩ : ∃ Z, zReq ⟨o0, ⟨oa, ob⟩, ⟨oc, od⟩, ov, os_, on⟩ = Z := ⟨_, rfl⟩
 rw [hZ] at hne
 have hq : reqB bs ⟨qk, ⟨kt, ki⟩, ⟨tt, ti⟩, qv, qs, qn⟩ = (Z && cntB bs ⟨qk, ⟨kt, ki⟩, ⟨tt, ti⟩, qv, qs, qn⟩) := by unfold reqB; rw [ho, hZ]
 rw [hq]
 clear hq hZ ho
 have n1 : (qk == 1) = false := by simp; omega
 have n2 : (qk == 2) = false := by simp; omega
 have n3 : (qk == 3) = false := by simp; omega
 have n4 : (qk == 4) = false := by simp; omega
 have n5 : (qk == 5) = false := by simp; omega
 have n6 : (qk == 6) = false := by simp; omega
 have n7 : (qk == 7) = false := by simp; omega
 have n8 : (qk == 8) = false := by simp; omega
 have n9 : (qk == 9) = false := by simp; omega
 have n10 : (qk == 10) = false := by simp; omega
 have n11 : (qk == 11) = false := by simp; omega
 have n12 : (qk == 12) = false := by simp; omega
 have hr : Hid (cntB bs ⟨qk, ⟨kt, ki⟩, ⟨tt, ti⟩, qv, qs, qn⟩ = false) := by
  show _ = _
  unfold cntB
  simp only
  rw [if_neg (by omega), if_neg (by omega), if_neg (by omega), if_neg (by omega), decide_eq_false (by omega)]
 clear hk
 go_enter Try.func36, Try.ntmps36
 go_wp2_with fail
 clear hW x0 x1 x2 x3 x4 x5 x6 x7
 refine hot.out.mono ?_
 rintro e W ⟨rfl, hb⟩
 clear hot
 have hbW := Lib.hid (hbx.out.1.trans (hb.mono hbx.out.1.size))
 have hh := Lib.hid (hh0.out.below hb (Nat.le_refl _))
 have r0 := Lib.hid (hbx.out.2.1.below hb)
 have r1 := Lib.hid (hbx.out.2.2.1.below hb)
 clear hb hbx hh0
 have hne2 : ∀ u, (binOp .neq 30 (.agg (ReqD.cells ⟨o0, ⟨oa, ob⟩, ⟨oc, od⟩, ov, os_, on⟩).toArray) (.agg #[.int .i64 0, .int .i64 0, .int .u16 0, .int .i64 0, .int .u16 0, .int .i64 0, .string ⟨#[]⟩, .int .i64 0])).run Try.prog u = .ok (.bool (!Z)) u := hne
 clear hne
 cases Z with
 | false =>
   go_wp2
   go_ret
   exact ⟨rfl, hbW.out⟩
 | true =>
 have s0 : W.cell? ⟨w.heap.size, 0, none⟩ = some (.slice tq tn tc) := r0.out.cell 0
 have y0 : W.cell? ⟨w.heap.size + 1, 0, none⟩ = some (.int .i64 qk) := r1.out.cell 0
 have y1 : W.cell? ⟨w.heap.size + 1, 1, none⟩ = some (.int .i64 kt) := r1.out.cell 1
 have y2 : W.cell? ⟨w.heap.size + 1, 2, none⟩ = some (.int .u16 ki) := r1.out.cell 2
 have y3 : W.cell? ⟨w.heap.size + 1, 3, none⟩ = some (.int .i64 tt) := r1.out.cell 3
 have y4 : W.cell? ⟨w.heap.size + 1, 4, none⟩ = some (.int .u16 ti) := r1.out.cell 4
 have y5 : W.cell? ⟨w.heap.size + 1, 5, none⟩ = some (.int .i64 qv) := r1.out.cell 5
 have y6 : W.cell? ⟨w.heap.size + 1, 6, none⟩ = some (.string qs) := r1.out.cell 6
 have y7 : W.cell? ⟨w.heap.size + 1, 7, none⟩ = some (.int .i64 qn) := r1.out.cell 7
 go_wp2
 go_ret
 refine ⟨?_, hbW.out⟩
 rw [hr.out]
 rfl
set_option maxHeartbeats 2000000 in
theorem isReq_3 (tq : Option Addr) (tn tc : Nat) (bs : List BdD) (kt ki tt ti qv : Int) (qs : ByteArray) (qn : Int) (w : World) (h : SchOn w tq tn tc bs) (hqs : qs.size ≤ maxLen) :
 Calls Try.prog 36 #[.agg #[.slice tq tn tc], .agg #[.int .i64 3, .int .i64 kt, .int .u16 ki, .int .i64 tt, .int .u16 ti, .int .i64 qv, .string qs, .int .i64 qn]] w (RqPost (reqB bs ⟨3, ⟨kt, ki⟩, ⟨tt, ti⟩, qv, qs, qn⟩) w) := by
 obtain ⟨W0, hW⟩ : ∃ W, (w.alloc (.cells #[.slice tq tn tc] 24)).alloc (.cells #[.int .i64 3, .int .i64 kt, .int .u16 ki, .int .i64 tt, .int .u16 ti, .int .i64 qv, .string qs, .int .i64 qn] 30) = W := ⟨_, rfl⟩
 have hbx := Lib.hid (two_rowsI (xs := [.slice tq tn tc]) (ys := [.int .i64 3, .int .i64 kt, .int .u16 ki, .int .i64 tt, .int .u16 ti, .int .i64 qv, .string qs, .int .i64 qn]) hW)
 have x0 : W0.cell? ⟨w.heap.size + 1, 0, none⟩ = some (.int .i64 3) := hbx.out.2.2.1.cell 0
 have x1 : W0.cell? ⟨w.heap.size + 1, 1, none⟩ = some (.int .i64 kt) := hbx.out.2.2.1.cell 1
 have x2 : W0.cell? ⟨w.heap.size + 1, 2, none⟩ = some (.int .u16 ki) := hbx.out.2.2.1.cell 2
 have x3 : W0.cell? ⟨w.heap.size + 1, 3, none⟩ = some (.int .i64 tt) := hbx.out.2.2.1.cell 3
 have x4 : W0.cell? ⟨w.heap.size + 1, 4, none⟩ = some (.int .u16 ti) := hbx.out.2.2.1.cell 4
 have x5 : W0.cell? ⟨w.heap.size + 1, 5, none⟩ = some (.int .i64 qv) := hbx.out.2.2.1.cell 5
 have x6 : W0.cell? ⟨w.heap.size + 1, 6, none⟩ = some (.string qs) := hbx.out.2.2.1.cell 6
 have x7 : W0.cell? ⟨w.heap.size + 1, 7, none⟩ = some (.int .i64 qn) := hbx.out.2.2.1.cell 7
 have hh0 := Lib.hid (h.below hbx.out.1 (Nat.le_refl _))
 clear h
 obtain ⟨⟨o0, ⟨oa, ob⟩, ⟨oc, od⟩, ov, os_, on⟩, ho⟩ : ∃ r, othR ⟨3, ⟨kt, ki⟩, ⟨tt, ti⟩, qv, qs, qn⟩ = r := ⟨_, rfl⟩
 have hot := others_any 3 kt ki tt ti qv qs qn W0
 rw [ho] at hot
 have hot := Lib.hid hot
 have hne := fun u => neq_reqZ u o0 oa ob oc od ov os_ on
 obtain ⟨Z, hZ⟩ : ∃ Z, zReq ⟨o0, ⟨oa, ob⟩, ⟨oc, od⟩, ov, os_, on⟩ = Z := ⟨_, rfl⟩
 rw [hZ] at hne
 have hq : reqB bs ⟨3, ⟨kt, ki⟩, ⟨tt, ti⟩, qv, qs, qn⟩ = (Z && cntB bs ⟨3, ⟨kt, ki⟩, ⟨tt, ti⟩, qv, qs, qn⟩) := by unfold reqB; rw [ho, hZ]
 rw [hq]
 clear hq hZ ho
 go_enter Try.func36, Try.ntmps36
 go_wp2_with fail
 clear hW x0 x1 x2 x3 x4 x5 x6 x7
 refine hot.out.mono ?_
 rintro e W ⟨rfl, hb⟩
 clear hot
 have hbW := Lib.hid (hbx.out.1.trans (hb.mono hbx.out.1.size))
 have hh := Lib.hid (hh0.out.below hb (Nat.le_refl _))
 have r0 := Lib.hid (hbx.out.2.1.below hb)
 have r1 := Lib.hid (hbx.out.2.2.1.below hb)
 clear hb hbx hh0
 have hne2 : ∀ u, (binOp .neq 30 (.agg (ReqD.cells ⟨o0, ⟨oa, ob⟩, ⟨oc, od⟩, ov, os_, on⟩).toArray) (.agg #[.int .i64 0, .int .i64 0, .int .u16 0, .int .i64 0, .int .u16 0, .int .i64 0, .string ⟨#[]⟩, .int .i64 0])).run Try.prog u = .ok (.bool (!Z)) u := hne
 clear hne
 cases Z with
 | false =>
   go_wp2
   go_ret
   exact ⟨rfl, hbW.out⟩
 | true =>
 have s0 : W.cell? ⟨w.heap.size, 0, none⟩ = some (.slice tq tn tc) := r0.out.cell 0
 have y0 : W.cell? ⟨w.heap.size + 1, 0, none⟩ = some (.int .i64 3) := r1.out.cell 0
 have y1 : W.cell? ⟨w.heap.size + 1, 1, none⟩ = some (.int .i64 kt) := r1.out.cell 1
 have y2 : W.cell? ⟨w.heap.size + 1, 2, none⟩ = some (.int .u16 ki) := r1.out.cell 2
 have y3 : W.cell? ⟨w.heap.size + 1, 3, none⟩ = some (.int .i64 tt) := r1.out.cell 3
 have y4 : W.cell? ⟨w.heap.size + 1, 4, none⟩ = some (.int .u16 ti) := r1.out.cell 4
 have y5 : W.cell? ⟨w.heap.size + 1, 5, none⟩ = some (.int .i64 qv) := r1.out.cell 5
 have y6 : W.cell? ⟨w.heap.size + 1, 6, none⟩ = some (.string qs) := r1.out.cell 6
 have y7 : W.cell? ⟨w.heap.size + 1, 7, none⟩ = some (.int .i64 qn) := r1.out.cell 7
 go_wp2_with fail
 refine (isKey_any tq tn tc bs kt ki W hh.out).mono ?_
 rintro e w1 ⟨rfl, hb⟩
 have hb' := Lib.hid (hbW.out.trans (hb.mono hbW.out.size))
 have z6 : w1.cell? ⟨w.heap.size + 1, 6, none⟩ = some (.string qs) := cell_keeps hb (Nat.le_refl _) y6
 obtain ⟨B, hB⟩ : ∃ B, keyB bs ⟨kt, ki⟩ = B := ⟨_, rfl⟩
 have hr : Hid (cntB bs ⟨3, ⟨kt, ki⟩, ⟨tt, ti⟩, qv, qs, qn⟩ = (B && decide (qs.size ≤ 8))) := by show _ = _; rw [← hB]; rfl
 rw [hB]
 clear hb hB y0 y1 y2 y3 y4 y5 y6 y7 s0
 unfold maxLen at hqs
 cases B with
 | true =>
   go_wp2
   go_ret
   refine ⟨?_, hb'.out⟩
   rw [hr.out]
   have e : decide ((qs.size : Int) ≤ 8) = decide (qs.size ≤ 8) := by rw [Bool.eq_iff_iff]; simp; omega
   simp [e]
 | false =>
   go_wp2
   go_ret
   exact ⟨by rw [hr.out]; rfl, hb'.out⟩
set_option maxHeartbeats 2000000 in
theorem isReq_5 (tq : Option Addr) (tn tc : Nat) (bs : List BdD) (kt ki tt ti qv : Int) (qs : ByteArray) (qn : Int) (w : World) (h : SchOn w tq tn tc bs) (hqs : qs.size ≤ maxLen) :
 Calls Try.prog 36 #[.agg #[.slice tq tn tc], .agg #[.int .i64 5, .int .i64 kt, .int .u16 ki, .int .i64 tt, .int .u16 ti, .int .i64 qv, .string qs, .int .i64 qn]] w (RqPost (reqB bs ⟨5, ⟨kt, ki⟩, ⟨tt, ti⟩, qv, qs, qn⟩) w) := by
 obtain ⟨W0, hW⟩ : ∃ W, (w.alloc (.cells #[.slice tq tn tc] 24)).alloc (.cells #[.int .i64 5, .int .i64 kt, .int .u16 ki, .int .i64 tt, .int .u16 ti, .int .i64 qv, .string qs, .int .i64 qn] 30) = W := ⟨_, rfl⟩
 have hbx := Lib.hid (two_rowsI (xs := [.slice tq tn tc]) (ys := [.int .i64 5, .int .i64 kt, .int .u16 ki, .int .i64 tt, .int .u16 ti, .int .i64 qv, .string qs, .int .i64 qn]) hW)
 have x0 : W0.cell? ⟨w.heap.size + 1, 0, none⟩ = some (.int .i64 5) := hbx.out.2.2.1.cell 0
 have x1 : W0.cell? ⟨w.heap.size + 1, 1, none⟩ = some (.int .i64 kt) := hbx.out.2.2.1.cell 1
 have x2 : W0.cell? ⟨w.heap.size + 1, 2, none⟩ = some (.int .u16 ki) := hbx.out.2.2.1.cell 2
 have x3 : W0.cell? ⟨w.heap.size + 1, 3, none⟩ = some (.int .i64 tt) := hbx.out.2.2.1.cell 3
 have x4 : W0.cell? ⟨w.heap.size + 1, 4, none⟩ = some (.int .u16 ti) := hbx.out.2.2.1.cell 4
 have x5 : W0.cell? ⟨w.heap.size + 1, 5, none⟩ = some (.int .i64 qv) := hbx.out.2.2.1.cell 5
 have x6 : W0.cell? ⟨w.heap.size + 1, 6, none⟩ = some (.string qs) := hbx.out.2.2.1.cell 6
 have x7 : W0.cell? ⟨w.heap.size + 1, 7, none⟩ = some (.int .i64 qn) := hbx.out.2.2.1.cell 7
 have hh0 := Lib.hid (h.below hbx.out.1 (Nat.le_refl _))
 clear h
 obtain ⟨⟨o0, ⟨oa, ob⟩, ⟨oc, od⟩, ov, os_, on⟩, ho⟩ : ∃ r, othR ⟨5, ⟨kt, ki⟩, ⟨tt, ti⟩, qv, qs, qn⟩ = r := ⟨_, rfl⟩
 have hot := others_any 5 kt ki tt ti qv qs qn W0
 rw [ho] at hot
 have hot := Lib.hid hot
 have hne := fun u => neq_reqZ u o0 oa ob oc od ov os_ on
 obtain ⟨Z, hZ⟩ : ∃ Z, zReq ⟨o0, ⟨oa, ob⟩, ⟨oc, od⟩, ov, os_, on⟩ = Z := ⟨_, rfl⟩
 rw [hZ] at hne
 have hq : reqB bs ⟨5, ⟨kt, ki⟩, ⟨tt, ti⟩, qv, qs, qn⟩ = (Z && cntB bs ⟨5, ⟨kt, ki⟩, ⟨tt, ti⟩, qv, qs, qn⟩) := by unfold reqB; rw [ho, hZ]
 rw [hq]
 clear hq hZ ho
 go_enter Try.func36, Try.ntmps36
 go_wp2_with fail
 clear hW x0 x1 x2 x3 x4 x5 x6 x7
 refine hot.out.mono ?_
 rintro e W ⟨rfl, hb⟩
 clear hot
 have hbW := Lib.hid (hbx.out.1.trans (hb.mono hbx.out.1.size))
 have hh := Lib.hid (hh0.out.below hb (Nat.le_refl _))
 have r0 := Lib.hid (hbx.out.2.1.below hb)
 have r1 := Lib.hid (hbx.out.2.2.1.below hb)
 clear hb hbx hh0
 have hne2 : ∀ u, (binOp .neq 30 (.agg (ReqD.cells ⟨o0, ⟨oa, ob⟩, ⟨oc, od⟩, ov, os_, on⟩).toArray) (.agg #[.int .i64 0, .int .i64 0, .int .u16 0, .int .i64 0, .int .u16 0, .int .i64 0, .string ⟨#[]⟩, .int .i64 0])).run Try.prog u = .ok (.bool (!Z)) u := hne
 clear hne
 cases Z with
 | false =>
   go_wp2
   go_ret
   exact ⟨rfl, hbW.out⟩
 | true =>
 have s0 : W.cell? ⟨w.heap.size, 0, none⟩ = some (.slice tq tn tc) := r0.out.cell 0
 have y0 : W.cell? ⟨w.heap.size + 1, 0, none⟩ = some (.int .i64 5) := r1.out.cell 0
 have y1 : W.cell? ⟨w.heap.size + 1, 1, none⟩ = some (.int .i64 kt) := r1.out.cell 1
 have y2 : W.cell? ⟨w.heap.size + 1, 2, none⟩ = some (.int .u16 ki) := r1.out.cell 2
 have y3 : W.cell? ⟨w.heap.size + 1, 3, none⟩ = some (.int .i64 tt) := r1.out.cell 3
 have y4 : W.cell? ⟨w.heap.size + 1, 4, none⟩ = some (.int .u16 ti) := r1.out.cell 4
 have y5 : W.cell? ⟨w.heap.size + 1, 5, none⟩ = some (.int .i64 qv) := r1.out.cell 5
 have y6 : W.cell? ⟨w.heap.size + 1, 6, none⟩ = some (.string qs) := r1.out.cell 6
 have y7 : W.cell? ⟨w.heap.size + 1, 7, none⟩ = some (.int .i64 qn) := r1.out.cell 7
 go_wp2_with fail
 refine (isKey_any tq tn tc bs kt ki W hh.out).mono ?_
 rintro e w1 ⟨rfl, hb⟩
 have hb' := Lib.hid (hbW.out.trans (hb.mono hbW.out.size))
 have z6 : w1.cell? ⟨w.heap.size + 1, 6, none⟩ = some (.string qs) := cell_keeps hb (Nat.le_refl _) y6
 obtain ⟨B, hB⟩ : ∃ B, keyB bs ⟨kt, ki⟩ = B := ⟨_, rfl⟩
 have hr : Hid (cntB bs ⟨5, ⟨kt, ki⟩, ⟨tt, ti⟩, qv, qs, qn⟩ = (B && decide (qs.size ≤ 8))) := by show _ = _; rw [← hB]; rfl
 rw [hB]
 clear hb hB y0 y1 y2 y3 y4 y5 y6 y7 s0
 unfold maxLen at hqs
 cases B with
 | true =>
   go_wp2
   go_ret
   refine ⟨?_, hb'.out⟩
   rw [hr.out]
   have e : decide ((qs.size : Int) ≤ 8) = decide (qs.size ≤ 8) := by rw [Bool.eq_iff_iff]; simp; omega
   simp [e]
 | false =>
   go_wp2
   go_ret
   exact ⟨by rw [hr.out]; rfl, hb'.out⟩
set_option maxHeartbeats 2000000 in
theorem isReq_8 (tq : Option Addr) (tn tc : Nat) (bs : List BdD) (kt ki tt ti qv : Int) (qs : ByteArray) (qn : Int) (w : World) (h : SchOn w tq tn tc bs) :
 Calls Try.prog 36 #[.agg #[.slice tq tn tc], .agg #[.int .i64 8, .int .i64 kt, .int .u16 ki, .int .i64 tt, .int .u16 ti, .int .i64 qv, .string qs, .int .i64 qn]] w (RqPost (reqB bs ⟨8, ⟨kt, ki⟩, ⟨tt, ti⟩, qv, qs, qn⟩) w) := by
 obtain ⟨W0, hW⟩ : ∃ W, (w.alloc (.cells #[.slice tq tn tc] 24)).alloc (.cells #[.int .i64 8, .int .i64 kt, .int .u16 ki, .int .i64 tt, .int .u16 ti, .int .i64 qv, .string qs, .int .i64 qn] 30) = W := ⟨_, rfl⟩
 have hbx := Lib.hid (two_rowsI (xs := [.slice tq tn tc]) (ys := [.int .i64 8, .int .i64 kt, .int .u16 ki, .int .i64 tt, .int .u16 ti, .int .i64 qv, .string qs, .int .i64 qn]) hW)
 have x0 : W0.cell? ⟨w.heap.size + 1, 0, none⟩ = some (.int .i64 8) := hbx.out.2.2.1.cell 0
 have x1 : W0.cell? ⟨w.heap.size + 1, 1, none⟩ = some (.int .i64 kt) := hbx.out.2.2.1.cell 1
 have x2 : W0.cell? ⟨w.heap.size + 1, 2, none⟩ = some (.int .u16 ki) := hbx.out.2.2.1.cell 2
 have x3 : W0.cell? ⟨w.heap.size + 1, 3, none⟩ = some (.int .i64 tt) := hbx.out.2.2.1.cell 3
 have x4 : W0.cell? ⟨w.heap.size + 1, 4, none⟩ = some (.int .u16 ti) := hbx.out.2.2.1.cell 4
 have x5 : W0.cell? ⟨w.heap.size + 1, 5, none⟩ = some (.int .i64 qv) := hbx.out.2.2.1.cell 5
 have x6 : W0.cell? ⟨w.heap.size + 1, 6, none⟩ = some (.string qs) := hbx.out.2.2.1.cell 6
 have x7 : W0.cell? ⟨w.heap.size + 1, 7, none⟩ = some (.int .i64 qn) := hbx.out.2.2.1.cell 7
 have hh0 := Lib.hid (h.below hbx.out.1 (Nat.le_refl _))
 clear h
 obtain ⟨⟨o0, ⟨oa, ob⟩, ⟨oc, od⟩, ov, os_, on⟩, ho⟩ : ∃ r, othR ⟨8, ⟨kt, ki⟩, ⟨tt, ti⟩, qv, qs, qn⟩ = r := ⟨_, rfl⟩
 have hot := others_any 8 kt ki tt ti qv qs qn W0
 rw [ho] at hot
 have hot := Lib.hid hot
 have hne := fun u => neq_reqZ u o0 oa ob oc od ov os_ on
 obtain ⟨Z, hZ⟩ : ∃ Z, zReq ⟨o0, ⟨oa, ob⟩, ⟨oc, od⟩, ov, os_, on⟩ = Z := ⟨_, rfl⟩
 rw [hZ] at hne
 have hq : reqB bs ⟨8, ⟨kt, ki⟩, ⟨tt, ti⟩, qv, qs, qn⟩ = (Z && cntB bs ⟨8, ⟨kt, ki⟩, ⟨tt, ti⟩, qv, qs, qn⟩) := by unfold reqB; rw [ho, hZ]
 rw [hq]
 clear hq hZ ho
 go_enter Try.func36, Try.ntmps36
 go_wp2_with fail
 clear hW x0 x1 x2 x3 x4 x5 x6 x7
 refine hot.out.mono ?_
 rintro e W ⟨rfl, hb⟩
 clear hot
 have hbW := Lib.hid (hbx.out.1.trans (hb.mono hbx.out.1.size))
 have hh := Lib.hid (hh0.out.below hb (Nat.le_refl _))
 have r0 := Lib.hid (hbx.out.2.1.below hb)
 have r1 := Lib.hid (hbx.out.2.2.1.below hb)
 clear hb hbx hh0
 have hne2 : ∀ u, (binOp .neq 30 (.agg (ReqD.cells ⟨o0, ⟨oa, ob⟩, ⟨oc, od⟩, ov, os_, on⟩).toArray) (.agg #[.int .i64 0, .int .i64 0, .int .u16 0, .int .i64 0, .int .u16 0, .int .i64 0, .string ⟨#[]⟩, .int .i64 0])).run Try.prog u = .ok (.bool (!Z)) u := hne
 clear hne
 cases Z with
 | false =>
   go_wp2
   go_ret
   exact ⟨rfl, hbW.out⟩
 | true =>
 have s0 : W.cell? ⟨w.heap.size, 0, none⟩ = some (.slice tq tn tc) := r0.out.cell 0
 have y0 : W.cell? ⟨w.heap.size + 1, 0, none⟩ = some (.int .i64 8) := r1.out.cell 0
 have y1 : W.cell? ⟨w.heap.size + 1, 1, none⟩ = some (.int .i64 kt) := r1.out.cell 1
 have y2 : W.cell? ⟨w.heap.size + 1, 2, none⟩ = some (.int .u16 ki) := r1.out.cell 2
 have y3 : W.cell? ⟨w.heap.size + 1, 3, none⟩ = some (.int .i64 tt) := r1.out.cell 3
 have y4 : W.cell? ⟨w.heap.size + 1, 4, none⟩ = some (.int .u16 ti) := r1.out.cell 4
 have y5 : W.cell? ⟨w.heap.size + 1, 5, none⟩ = some (.int .i64 qv) := r1.out.cell 5
 have y6 : W.cell? ⟨w.heap.size + 1, 6, none⟩ = some (.string qs) := r1.out.cell 6
 have y7 : W.cell? ⟨w.heap.size + 1, 7, none⟩ = some (.int .i64 qn) := r1.out.cell 7
 go_wp2_with fail
 refine (isKey_any tq tn tc bs kt ki W hh.out).mono ?_
 rintro e w1 ⟨rfl, hb⟩
 have hb' := Lib.hid (hbW.out.trans (hb.mono hbW.out.size))
 have h1 := Lib.hid (hh.out.below hb (Nat.le_refl _))
 have z0 : w1.cell? ⟨w.heap.size, 0, none⟩ = some (.slice tq tn tc) := cell_keeps hb (Nat.le_refl _) s0
 have z1 : w1.cell? ⟨w.heap.size + 1, 1, none⟩ = some (.int .i64 kt) := cell_keeps hb (Nat.le_refl _) y1
 have z2 : w1.cell? ⟨w.heap.size + 1, 2, none⟩ = some (.int .u16 ki) := cell_keeps hb (Nat.le_refl _) y2
 have z3 : w1.cell? ⟨w.heap.size + 1, 3, none⟩ = some (.int .i64 tt) := cell_keeps hb (Nat.le_refl _) y3
 have z4 : w1.cell? ⟨w.heap.size + 1, 4, none⟩ = some (.int .u16 ti) := cell_keeps hb (Nat.le_refl _) y4
 have z5 : w1.cell? ⟨w.heap.size + 1, 5, none⟩ = some (.int .i64 qv) := cell_keeps hb (Nat.le_refl _) y5
 obtain ⟨B, hB⟩ : ∃ B, keyB bs ⟨kt, ki⟩ = B := ⟨_, rfl⟩
 have hr : Hid (cntB bs ⟨8, ⟨kt, ki⟩, ⟨tt, ti⟩, qv, qs, qn⟩ = (B && (keyB bs ⟨tt, ti⟩ && (!eqK ⟨tt, ti⟩ ⟨kt, ki⟩ && decide (0 ≤ qv))))) := by show _ = _; rw [← hB]; rfl
 rw [hB]
 clear hb hB y0 y1 y2 y3 y4 y5 y6 y7 s0
 cases B with
 | false =>
   go_wp2
   go_ret
   exact ⟨by rw [hr.out]; rfl, hb'.out⟩
 | true =>
   go_wp2_with fail
   refine (isKey_any tq tn tc bs tt ti w1 h1.out).mono ?_
   rintro e w2 ⟨rfl, hb⟩
   have hb2 := Lib.hid (hb'.out.trans (hb.mono hb'.out.size))
   have u1 : w2.cell? ⟨w.heap.size + 1, 1, none⟩ = some (.int .i64 kt) := cell_keeps hb (Nat.le_refl _) z1
   have u2 : w2.cell? ⟨w.heap.size + 1, 2, none⟩ = some (.int .u16 ki) := cell_keeps hb (Nat.le_refl _) z2
   have u3 : w2.cell? ⟨w.heap.size + 1, 3, none⟩ = some (.int .i64 tt) := cell_keeps hb (Nat.le_refl _) z3
   have u4 : w2.cell? ⟨w.heap.size + 1, 4, none⟩ = some (.int .u16 ti) := cell_keeps hb (Nat.le_refl _) z4
   have u5 : w2.cell? ⟨w.heap.size + 1, 5, none⟩ = some (.int .i64 qv) := cell_keeps hb (Nat.le_refl _) z5
   obtain ⟨B, hB⟩ : ∃ B, keyB bs ⟨tt, ti⟩ = B := ⟨_, rfl⟩
   have hr2 : Hid (cntB bs ⟨8, ⟨kt, ki⟩, ⟨tt, ti⟩, qv, qs, qn⟩ = (B && (!eqK ⟨tt, ti⟩ ⟨kt, ki⟩ && decide (0 ≤ qv)))) := by show _ = _; rw [hr.out, hB]; rfl
   rw [hB]
   clear hb hB z0 z1 z2 z3 z4 z5
   cases B with
   | false =>
     go_wp2
     go_ret
     exact ⟨by rw [hr2.out]; rfl, hb2.out⟩
   | true =>
     have hne := fun u => neq_keyI u tt ti kt ki
     obtain ⟨E, hE⟩ : ∃ E, eqK ⟨tt, ti⟩ ⟨kt, ki⟩ = E := ⟨_, rfl⟩
     have hr3 : Hid (cntB bs ⟨8, ⟨kt, ki⟩, ⟨tt, ti⟩, qv, qs, qn⟩ = (!E && decide (0 ≤ qv))) := by show _ = _; rw [hr2.out, hE]; rfl
     rw [hE] at hne
     clear hE
     cases E with
     | true =>
       have hne2 : ∀ u, (binOp .neq 28 (.agg #[.int .i64 tt, .int .u16 ti]) (.agg #[.int .i64 kt, .int .u16 ki])).run Try.prog u = .ok (.bool false) u := hne
       clear hne
       go_wp2
       go_ret
       exact ⟨by rw [hr3.out]; rfl, hb2.out⟩
     | false =>
       have hne2 : ∀ u, (binOp .neq 28 (.agg #[.int .i64 tt, .int .u16 ti]) (.agg #[.int .i64 kt, .int .u16 ki])).run Try.prog u = .ok (.bool true) u := hne
       clear hne
       go_wp2
       go_ret
       exact ⟨by rw [hr3.out]; rfl, hb2.out⟩
theorem isReq_any (qk kt ki tt ti qv : Int) (qs : ByteArray) (qn : Int) (bs : List BdD) (w : World) (tq : Option Addr) (tn tc : Nat) (h : SchOn w tq tn tc bs) (hqs : qs.size ≤ maxLen) :
 Calls Try.prog 36 #[.agg #[.slice tq tn tc], .agg #[.int .i64 qk, .int .i64 kt, .int .u16 ki, .int .i64 tt, .int .u16 ti, .int .i64 qv, .string qs, .int .i64 qn]] w (RqPost (reqB bs ⟨qk, ⟨kt, ki⟩, ⟨tt, ti⟩, qv, qs, qn⟩) w) := by
 by_cases hk : 1 ≤ qk ∧ qk ≤ 12
 · have hc : qk = 1 ∨ qk = 2 ∨ qk = 3 ∨ qk = 4 ∨ qk = 5 ∨ qk = 6 ∨ qk = 7 ∨ qk = 8 ∨ qk = 9 ∨ qk = 10 ∨ qk = 11 ∨ qk = 12 := by omega
   clear hk
   rcases hc with rfl | rfl | rfl | rfl | rfl | rfl | rfl | rfl | rfl | rfl | rfl | rfl
   · exact isReq_1 tq tn tc bs kt ki tt ti qv qs qn w h
   · exact isReq_2 tq tn tc bs kt ki tt ti qv qs qn w h
   · exact isReq_3 tq tn tc bs kt ki tt ti qv qs qn w h hqs
   · exact isReq_4 tq tn tc bs kt ki tt ti qv qs qn w h
   · exact isReq_5 tq tn tc bs kt ki tt ti qv qs qn w h hqs
   · exact isReq_6 tq tn tc bs kt ki tt ti qv qs qn w h
   · exact isReq_7 tq tn tc bs kt ki tt ti qv qs qn w h
   · exact isReq_8 tq tn tc bs kt ki tt ti qv qs qn w h
   · exact isReq_9 tq tn tc bs kt ki tt ti qv qs qn w h
   · exact isReq_10 tq tn tc bs kt ki tt ti qv qs qn w h
   · exact isReq_11 tq tn tc bs kt ki tt ti qv qs qn w h
   · exact isReq_12 tq tn tc bs kt ki tt ti qv qs qn w h
 · exact isReq_no tq tn tc bs qk kt ki tt ti qv qs qn w h hk
set_option maxHeartbeats 1000000 in
theorem ofRows_any (qk kt ki tt ti qv : Int) (qs : ByteArray) (qn : Int) (w : World) : Calls Try.prog 37 #[.agg #[.int .i64 qk, .int .i64 kt, .int .u16 ki, .int .i64 tt, .int .u16 ti, .int .i64 qv, .string qs, .int .i64 qn]] w (RqPost (decide (qk ≤ 8)) w) := by
 obtain ⟨W, hW⟩ : ∃ W, w.alloc (.cells #[.int .i64 qk, .int .i64 kt, .int .u16 ki, .int .i64 tt, .int .u16 ti, .int .i64 qv, .string qs, .int .i64 qn] 30) = W := ⟨_, rfl⟩
 have hbx := Lib.hid (one_rowI (xs := [.int .i64 qk, .int .i64 kt, .int .u16 ki, .int .i64 tt, .int .u16 ti, .int .i64 qv, .string qs, .int .i64 qn]) hW)
 have y0 : W.cell? ⟨w.heap.size, 0, none⟩ = some (.int .i64 qk) := hbx.out.2.1.cell 0
 go_enter Try.func37, Try.ntmps37
 go_wp2
 go_ret
 exact ⟨rfl, hbx.out.1⟩
end Go.Proofs.Ytkdkncbccofpdaa
