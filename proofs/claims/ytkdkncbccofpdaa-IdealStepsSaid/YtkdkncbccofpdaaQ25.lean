/- RightRequest of the document's ideal. -/
import Derived.Test.YtkdkncbccofpdaaQ22
namespace Go.Proofs.Ytkdkncbccofpdaa
open Go.ChangeShapes Go.WideShapes Go.ChangeAt Go.RowKit Go.Deep Go.Joins
set_option maxRecDepth 100000
def eqQ (a b : ReqD) : Bool := a.k == b.k && (a.key.t == b.key.t && a.key.id == b.key.id) && (a.to.t == b.to.t && a.to.id == b.to.id) && a.val == b.val && (a.note.toList == b.note.toList) && a.n == b.n
set_option maxHeartbeats 1000000 in
theorem eq_req (w : World) (k a b c d v : Int) (s : ByteArray) (n : Int) (k' a' b' c' d' v' : Int) (s' : ByteArray) (n' : Int) : (binOp .eql 30 (.agg #[.int .i64 k, .int .i64 a, .int .u16 b, .int .i64 c, .int .u16 d, .int .i64 v, .string s, .int .i64 n]) (.agg #[.int .i64 k', .int .i64 a', .int .u16 b', .int .i64 c', .int .u16 d', .int .i64 v', .string s', .int .i64 n'])).run Try.prog w = .ok (.bool (eqQ ⟨k, ⟨a, b⟩, ⟨c, d⟩, v, s, n⟩ ⟨k', ⟨a', b'⟩, ⟨c', d'⟩, v', s', n'⟩)) w := by
 have hS : Try.prog.underlying 30 = some (.struct (Try.prog.fieldsOf 30)) := by kernel_rfl
 have hp : Try.prog.stoodInHeld 30 = false := by kernel_rfl
 have u2 := Try.underlying2
 have u3 := Try.underlying3
 have u4 := Try.underlying9
 have a2 := Try.isAgg2
 have a3 := Try.isAgg3
 have a4 := Try.isAgg9
 have a5 := Try.isAgg28
 have z2 := Try.sizeOf2
 have z3 := Try.sizeOf3
 have z4 := Try.sizeOf9
 have z5 := Try.sizeOf28
 have hk1 := fun w => equal_key w a b a' b'
 have hk2 := fun w => equal_key w c d c' d'
 rw [run_eql_struct, show (10000 : Nat) = 9999 + 1 from rfl, run_equalIn_agg w 9999 30 _ _ hS hp]
 simp only [Program.fieldsOf, Try.underlying30]
 clear hS hp
 unfold eqQ
 have hi : ∀ (w : World) (x y : Int), (Op.equalIn 9999 3 (.int .i64 x) (.int .i64 y)).run Try.prog w = .ok (x == y) w := fun w x y => run_equalIn_int w 9998 3 .i64 .i64 x y u3
 have hv : ∀ (w : World) (x y : Int), (Op.equalIn 9999 2 (.int .i64 x) (.int .i64 y)).run Try.prog w = .ok (x == y) w := fun w x y => run_equalIn_int w 9998 2 .i64 .i64 x y u2
 have hs : ∀ w : World, (Op.equalIn 9999 9 (.string s) (.string s')).run Try.prog w = .ok (s.toList == s'.toList) w := fun w => run_equalIn_string w 9998 9 s s' u4
 have x1 : (#[Value.int .i64 k, .int .i64 a, .int .u16 b, .int .i64 c, .int .u16 d, .int .i64 v, .string s, .int .i64 n].extract 1 3) = #[Value.int .i64 a, .int .u16 b] := rfl
 have x2 : (#[Value.int .i64 k, .int .i64 a, .int .u16 b, .int .i64 c, .int .u16 d, .int .i64 v, .string s, .int .i64 n].extract 3 5) = #[Value.int .i64 c, .int .u16 d] := rfl
 have xg0 : (#[Value.int .i64 k, .int .i64 a, .int .u16 b, .int .i64 c, .int .u16 d, .int .i64 v, .string s, .int .i64 n])[0]? = some (.int .i64 k) := rfl
 have xg5 : (#[Value.int .i64 k, .int .i64 a, .int .u16 b, .int .i64 c, .int .u16 d, .int .i64 v, .string s, .int .i64 n])[5]? = some (.int .i64 v) := rfl
 have xg6 : (#[Value.int .i64 k, .int .i64 a, .int .u16 b, .int .i64 c, .int .u16 d, .int .i64 v, .string s, .int .i64 n])[6]? = some (.string s) := rfl
 have xg7 : (#[Value.int .i64 k, .int .i64 a, .int .u16 b, .int .i64 c, .int .u16 d, .int .i64 v, .string s, .int .i64 n])[7]? = some (.int .i64 n) := rfl
 have e1 : (#[Value.int .i64 k', .int .i64 a', .int .u16 b', .int .i64 c', .int .u16 d', .int .i64 v', .string s', .int .i64 n'].extract 1 3) = #[Value.int .i64 a', .int .u16 b'] := rfl
 have e2 : (#[Value.int .i64 k', .int .i64 a', .int .u16 b', .int .i64 c', .int .u16 d', .int .i64 v', .string s', .int .i64 n'].extract 3 5) = #[Value.int .i64 c', .int .u16 d'] := rfl
 have eg0 : (#[Value.int .i64 k', .int .i64 a', .int .u16 b', .int .i64 c', .int .u16 d', .int .i64 v', .string s', .int .i64 n'])[0]? = some (.int .i64 k') := rfl
 have eg5 : (#[Value.int .i64 k', .int .i64 a', .int .u16 b', .int .i64 c', .int .u16 d', .int .i64 v', .string s', .int .i64 n'])[5]? = some (.int .i64 v') := rfl
 have eg6 : (#[Value.int .i64 k', .int .i64 a', .int .u16 b', .int .i64 c', .int .u16 d', .int .i64 v', .string s', .int .i64 n'])[6]? = some (.string s') := rfl
 have eg7 : (#[Value.int .i64 k', .int .i64 a', .int .u16 b', .int .i64 c', .int .u16 d', .int .i64 v', .string s', .int .i64 n'])[7]? = some (.int .i64 n') := rfl
 have n1 : ("Kind" : String) ≠ "_" := by decide
 have n2 : ("Key" : String) ≠ "_" := by decide
 have n3 : ("To" : String) ≠ "_" := by decide
 have n4 : ("Val" : String) ≠ "_" := by decide
 have n5 : ("Note" : String) ≠ "_" := by decide
 have n6 : ("N" : String) ≠ "_" := by decide
 simp only [Op.eqFields, part, a5, z5, a2, a3, a4, z2, z3, z4, hk1, hk2, hi, hv, hs, x1, x2, e1, e2, xg0, xg5, xg6, xg7, eg0, eg5, eg6, eg7, if_pos n1, if_pos n2, if_pos n3, if_pos n4, if_pos n5, if_pos n6, Sem.run_bind, Sem.run_ite, Sem.run_pure, Result.andThen_ok, Nat.zero_add, Nat.reduceAdd, Bool.false_eq_true, if_false, if_true]
 generalize (s.toList == s'.toList) = g
 generalize (k == k') = g1
 generalize (a == a') = g2
 generalize (b == b') = g3
 generalize (c == c') = g4
 generalize (d == d') = g5
 generalize (v == v') = g6
 generalize (n == n') = g7
 cases g1 <;> cases g2 <;> cases g3 <;> cases g4 <;> cases g5 <;> cases g6 <;> cases g <;> cases g7 <;> rfl
theorem note_none (s : ByteArray) : (s.toList == (⟨#[]⟩ : ByteArray).toList) = (s.size == 0) := by
 rw [Bool.eq_iff_iff, beq_iff_eq, beq_iff_eq]
 constructor
 · intro h; rw [bytes_inj h]; rfl
 · intro h
   obtain ⟨⟨l⟩⟩ := s
   cases l with
   | nil => rfl
   | cons x l => exact absurd (show (x :: l).length = 0 from h) (by simp)
theorem zReq_note {q : ReqD} (h : zReq q = true) : q.note.size = 0 := by
 unfold zReq at h
 simp only [Bool.and_eq_true, beq_iff_eq] at h
 exact h.1.2
theorem want_1 (kt ki tt ti qv : Int) (qs : ByteArray) (qn : Int) : eqQ ⟨1, ⟨kt, ki⟩, ⟨tt, ti⟩, qv, qs, qn⟩ ⟨1, ⟨kt, ki⟩, ⟨0, 0⟩, 0, ⟨#[]⟩, 0⟩ = zReq (othR ⟨1, ⟨kt, ki⟩, ⟨tt, ti⟩, qv, qs, qn⟩) := by
 show _ = zReq ⟨0, ⟨0, 0⟩, ⟨tt, ti⟩, qv, qs, qn⟩
 unfold eqQ zReq
 simp only [note_none]
 simp
theorem want_4 (kt ki tt ti qv : Int) (qs : ByteArray) (qn : Int) : eqQ ⟨4, ⟨kt, ki⟩, ⟨tt, ti⟩, qv, qs, qn⟩ ⟨4, ⟨kt, ki⟩, ⟨0, 0⟩, 0, ⟨#[]⟩, 0⟩ = zReq (othR ⟨4, ⟨kt, ki⟩, ⟨tt, ti⟩, qv, qs, qn⟩) := by
 show _ = zReq ⟨0, ⟨0, 0⟩, ⟨tt, ti⟩, qv, qs, qn⟩
 unfold eqQ zReq
 simp only [note_none]
 simp
theorem want_2 (kt ki tt ti qv : Int) (qs : ByteArray) (qn : Int) : eqQ ⟨2, ⟨kt, ki⟩, ⟨tt, ti⟩, qv, qs, qn⟩ ⟨2, ⟨kt, 0⟩, ⟨0, 0⟩, 0, ⟨#[]⟩, 0⟩ = zReq (othR ⟨2, ⟨kt, ki⟩, ⟨tt, ti⟩, qv, qs, qn⟩) := by
 show _ = zReq ⟨0, ⟨0, ki⟩, ⟨tt, ti⟩, qv, qs, qn⟩
 unfold eqQ zReq
 simp only [note_none]
 simp
theorem want_3 (kt ki tt ti qv : Int) (qs : ByteArray) (qn : Int) : eqQ ⟨3, ⟨kt, ki⟩, ⟨tt, ti⟩, qv, qs, qn⟩ ⟨3, ⟨kt, ki⟩, ⟨0, 0⟩, qv, qs, 0⟩ = zReq (othR ⟨3, ⟨kt, ki⟩, ⟨tt, ti⟩, qv, qs, qn⟩) := by
 show _ = zReq ⟨0, ⟨0, 0⟩, ⟨tt, ti⟩, 0, ⟨#[]⟩, qn⟩
 unfold eqQ zReq
 have e0 : ((⟨#[]⟩ : ByteArray).size == 0) = true := rfl
 simp [e0]
theorem want_5 (kt ki tt ti qv : Int) (qs : ByteArray) (qn : Int) : eqQ ⟨5, ⟨kt, ki⟩, ⟨tt, ti⟩, qv, qs, qn⟩ ⟨5, ⟨kt, ki⟩, ⟨0, 0⟩, 0, qs, 0⟩ = zReq (othR ⟨5, ⟨kt, ki⟩, ⟨tt, ti⟩, qv, qs, qn⟩) := by
 show _ = zReq ⟨0, ⟨0, 0⟩, ⟨tt, ti⟩, qv, ⟨#[]⟩, qn⟩
 unfold eqQ zReq
 have e0 : ((⟨#[]⟩ : ByteArray).size == 0) = true := rfl
 simp [e0]
theorem want_6 (kt ki tt ti qv : Int) (qs : ByteArray) (qn : Int) : eqQ ⟨6, ⟨kt, ki⟩, ⟨tt, ti⟩, qv, qs, qn⟩ ⟨6, ⟨kt, ki⟩, ⟨0, 0⟩, qv, ⟨#[]⟩, 0⟩ = zReq (othR ⟨6, ⟨kt, ki⟩, ⟨tt, ti⟩, qv, qs, qn⟩) := by
 show _ = zReq ⟨0, ⟨0, 0⟩, ⟨tt, ti⟩, 0, qs, qn⟩
 unfold eqQ zReq
 simp only [note_none]
 simp
theorem want_7 (kt ki tt ti qv : Int) (qs : ByteArray) (qn : Int) : eqQ ⟨7, ⟨kt, ki⟩, ⟨tt, ti⟩, qv, qs, qn⟩ ⟨7, ⟨kt, ki⟩, ⟨0, 0⟩, qv, ⟨#[]⟩, 0⟩ = zReq (othR ⟨7, ⟨kt, ki⟩, ⟨tt, ti⟩, qv, qs, qn⟩) := by
 show _ = zReq ⟨0, ⟨0, 0⟩, ⟨tt, ti⟩, 0, qs, qn⟩
 unfold eqQ zReq
 simp only [note_none]
 simp
theorem want_8 (kt ki tt ti qv : Int) (qs : ByteArray) (qn : Int) : eqQ ⟨8, ⟨kt, ki⟩, ⟨tt, ti⟩, qv, qs, qn⟩ ⟨8, ⟨kt, ki⟩, ⟨tt, ti⟩, qv, ⟨#[]⟩, 0⟩ = zReq (othR ⟨8, ⟨kt, ki⟩, ⟨tt, ti⟩, qv, qs, qn⟩) := by
 show _ = zReq ⟨0, ⟨0, 0⟩, ⟨0, 0⟩, 0, qs, qn⟩
 unfold eqQ zReq
 simp only [note_none]
 simp
theorem want_10 (kt ki tt ti qv : Int) (qs : ByteArray) (qn : Int) : eqQ ⟨10, ⟨kt, ki⟩, ⟨tt, ti⟩, qv, qs, qn⟩ ⟨10, ⟨0, 0⟩, ⟨0, 0⟩, 0, ⟨#[]⟩, qn⟩ = zReq (othR ⟨10, ⟨kt, ki⟩, ⟨tt, ti⟩, qv, qs, qn⟩) := by
 show _ = zReq ⟨0, ⟨kt, ki⟩, ⟨tt, ti⟩, qv, qs, 0⟩
 unfold eqQ zReq
 simp only [note_none]
 simp
theorem want_9 (kt ki tt ti qv : Int) (qs : ByteArray) (qn : Int) : eqQ ⟨9, ⟨kt, ki⟩, ⟨tt, ti⟩, qv, qs, qn⟩ ⟨9, ⟨0, 0⟩, ⟨0, 0⟩, 0, ⟨#[]⟩, 0⟩ = zReq (othR ⟨9, ⟨kt, ki⟩, ⟨tt, ti⟩, qv, qs, qn⟩) := by
 show _ = zReq ⟨0, ⟨kt, ki⟩, ⟨tt, ti⟩, qv, qs, qn⟩
 unfold eqQ zReq
 simp only [note_none]
 simp
theorem want_11 (kt ki tt ti qv : Int) (qs : ByteArray) (qn : Int) : eqQ ⟨11, ⟨kt, ki⟩, ⟨tt, ti⟩, qv, qs, qn⟩ ⟨11, ⟨0, 0⟩, ⟨0, 0⟩, 0, ⟨#[]⟩, 0⟩ = zReq (othR ⟨11, ⟨kt, ki⟩, ⟨tt, ti⟩, qv, qs, qn⟩) := by
 show _ = zReq ⟨0, ⟨kt, ki⟩, ⟨tt, ti⟩, qv, qs, qn⟩
 unfold eqQ zReq
 simp only [note_none]
 simp
theorem want_12 (kt ki tt ti qv : Int) (qs : ByteArray) (qn : Int) : eqQ ⟨12, ⟨kt, ki⟩, ⟨tt, ti⟩, qv, qs, qn⟩ ⟨12, ⟨0, 0⟩, ⟨0, 0⟩, 0, ⟨#[]⟩, 0⟩ = zReq (othR ⟨12, ⟨kt, ki⟩, ⟨tt, ti⟩, qv, qs, qn⟩) := by
 show _ = zReq ⟨0, ⟨kt, ki⟩, ⟨tt, ti⟩, qv, qs, qn⟩
 unfold eqQ zReq
 simp only [note_none]
 simp
theorem key_bool {bs : List BdD} (hS : okS bs = true) (k : KeyD) : keyB bs k = (keyE bs k == 0) := by
 unfold keyB chkKey
 rw [if_pos hS, Bool.eq_iff_iff]
 simp
set_option maxHeartbeats 4000000 in
theorem rrq_1 (kt ki tt ti qv : Int) (qs : ByteArray) (qn : Int) (tq : Option Addr) (tn tc : Nat) (bs : List BdD) (w : World) (h : SchOn w tq tn tc bs) (hS : okS bs = true) :
 Calls Try.prog 15 #[.agg #[.slice tq tn tc], .agg #[.int .i64 1, .int .i64 kt, .int .u16 ki, .int .i64 tt, .int .u16 ti, .int .i64 qv, .string qs, .int .i64 qn]] w (RqPost (reqB bs ⟨1, ⟨kt, ki⟩, ⟨tt, ti⟩, qv, qs, qn⟩) w) := by
 have hl := h.len
 obtain ⟨W, hW⟩ : ∃ W, (w.alloc (.cells #[.slice tq tn tc] 24)).alloc (.cells #[.int .i64 1, .int .i64 kt, .int .u16 ki, .int .i64 tt, .int .u16 ti, .int .i64 qv, .string qs, .int .i64 qn] 30) = W := ⟨_, rfl⟩
 have hbx := Lib.hid (two_rowsI (xs := [.slice tq tn tc]) (ys := [.int .i64 1, .int .i64 kt, .int .u16 ki, .int .i64 tt, .int .u16 ti, .int .i64 qv, .string qs, .int .i64 qn]) hW)
 have y0 : W.cell? ⟨w.heap.size + 1, 0, none⟩ = some (.int .i64 1) := hbx.out.2.2.1.cell 0
 have hWs : W.heap.size = w.heap.size + 2 := hbx.out.2.2.2
 obtain ⟨V, hV⟩ : ∃ V, W.alloc (.cells #[.int .i64 0, .int .i64 0, .int .u16 0, .int .i64 0, .int .u16 0, .int .i64 0, .string ⟨#[]⟩, .int .i64 0] 30) = V := ⟨_, rfl⟩
 have hbv := Lib.hid (one_rowI (xs := [.int .i64 0, .int .i64 0, .int .u16 0, .int .i64 0, .int .u16 0, .int .i64 0, .string ⟨#[]⟩, .int .i64 0]) hV)
 rw [hWs] at hbv
 have bV := Lib.hid (hbx.out.1.trans ((show Below W.heap.size W V by rw [hWs]; exact hbv.out.1).mono hbx.out.1.size))
 have sV := Lib.hid (hbx.out.2.1.below (show Below W.heap.size W V by rw [hWs]; exact hbv.out.1))
 have qV := Lib.hid (hbx.out.2.2.1.below (show Below W.heap.size W V by rw [hWs]; exact hbv.out.1))
 have zV := Lib.hid hbv.out.2.1
 have hsz : Hid (w.heap.size + 3 ≤ V.heap.size) := by have h1 := hbv.out.2.2; show _ ≤ _; omega
 have y0_ : V.cell? ⟨w.heap.size + 1, 0, none⟩ = some (.int .i64 1) := qV.out.cell 0
 have x0 : V.cell? ⟨w.heap.size + 2, 0, none⟩ = some (.int .i64 0) := zV.out.cell 0
 have f0 := zV.out.free 0
 have y1_ : V.cell? ⟨w.heap.size + 1, 1, none⟩ = some (.int .i64 kt) := qV.out.cell 1
 have x1 : V.cell? ⟨w.heap.size + 2, 1, none⟩ = some (.int .i64 0) := zV.out.cell 1
 have f1 := zV.out.free 1
 have y2_ : V.cell? ⟨w.heap.size + 1, 2, none⟩ = some (.int .u16 ki) := qV.out.cell 2
 have x2 : V.cell? ⟨w.heap.size + 2, 2, none⟩ = some (.int .u16 0) := zV.out.cell 2
 have f2 := zV.out.free 2
 have y3_ : V.cell? ⟨w.heap.size + 1, 3, none⟩ = some (.int .i64 tt) := qV.out.cell 3
 have x3 : V.cell? ⟨w.heap.size + 2, 3, none⟩ = some (.int .i64 0) := zV.out.cell 3
 have f3 := zV.out.free 3
 have y4_ : V.cell? ⟨w.heap.size + 1, 4, none⟩ = some (.int .u16 ti) := qV.out.cell 4
 have x4 : V.cell? ⟨w.heap.size + 2, 4, none⟩ = some (.int .u16 0) := zV.out.cell 4
 have f4 := zV.out.free 4
 have y5_ : V.cell? ⟨w.heap.size + 1, 5, none⟩ = some (.int .i64 qv) := qV.out.cell 5
 have x5 : V.cell? ⟨w.heap.size + 2, 5, none⟩ = some (.int .i64 0) := zV.out.cell 5
 have f5 := zV.out.free 5
 have y6_ : V.cell? ⟨w.heap.size + 1, 6, none⟩ = some (.string qs) := qV.out.cell 6
 have x6 : V.cell? ⟨w.heap.size + 2, 6, none⟩ = some (.string ⟨#[]⟩) := zV.out.cell 6
 have f6 := zV.out.free 6
 have y7_ : V.cell? ⟨w.heap.size + 1, 7, none⟩ = some (.int .i64 qn) := qV.out.cell 7
 have x7 : V.cell? ⟨w.heap.size + 2, 7, none⟩ = some (.int .i64 0) := zV.out.cell 7
 have f7 := zV.out.free 7
 obtain ⟨Z, hZ⟩ : ∃ Z, ((((((((((V.setCell ⟨w.heap.size + 2, 0, none⟩ (.int .i64 1)).setCell ⟨w.heap.size + 2, 1, none⟩ (.int .i64 0)).setCell ⟨w.heap.size + 2, 2, none⟩ (.int .u16 0)).setCell ⟨w.heap.size + 2, 3, none⟩ (.int .i64 0)).setCell ⟨w.heap.size + 2, 4, none⟩ (.int .u16 0)).setCell ⟨w.heap.size + 2, 5, none⟩ (.int .i64 0)).setCell ⟨w.heap.size + 2, 6, none⟩ (.string ⟨#[]⟩)).setCell ⟨w.heap.size + 2, 7, none⟩ (.int .i64 0)).setCell ⟨w.heap.size + 2, 1, none⟩ (.int .i64 kt)).setCell ⟨w.heap.size + 2, 2, none⟩ (.int .u16 ki)) = Z := ⟨_, rfl⟩
 have zZ : Hid (RowV 30 Z (w.heap.size + 2) [.int .i64 1, .int .i64 kt, .int .u16 ki, .int .i64 0, .int .u16 0, .int .i64 0, .string ⟨#[]⟩, .int .i64 0]) := by
  show RowV _ _ _ _
  rw [← hZ]
  exact ((((((((((zV.out.set 0 (.int .i64 1)).set 1 (.int .i64 0)).set 2 (.int .u16 0)).set 3 (.int .i64 0)).set 4 (.int .u16 0)).set 5 (.int .i64 0)).set 6 (.string ⟨#[]⟩)).set 7 (.int .i64 0)).set 1 (.int .i64 kt)).set 2 (.int .u16 ki))
 have qZ : Hid (RowV 30 Z (w.heap.size + 1) [.int .i64 1, .int .i64 kt, .int .u16 ki, .int .i64 tt, .int .u16 ti, .int .i64 qv, .string qs, .int .i64 qn]) := by
  show RowV _ _ _ _
  rw [← hZ]
  exact ((((((((((qV.out.kept (setCell_grown _ _ _ _) (by omega)).kept (setCell_grown _ _ _ _) (by omega)).kept (setCell_grown _ _ _ _) (by omega)).kept (setCell_grown _ _ _ _) (by omega)).kept (setCell_grown _ _ _ _) (by omega)).kept (setCell_grown _ _ _ _) (by omega)).kept (setCell_grown _ _ _ _) (by omega)).kept (setCell_grown _ _ _ _) (by omega)).kept (setCell_grown _ _ _ _) (by omega)).kept (setCell_grown _ _ _ _) (by omega))
 have sZ : Hid (RowV 24 Z w.heap.size [.slice tq tn tc]) := by
  show RowV _ _ _ _
  rw [← hZ]
  exact ((((((((((sV.out.kept (setCell_grown _ _ _ _) (by omega)).kept (setCell_grown _ _ _ _) (by omega)).kept (setCell_grown _ _ _ _) (by omega)).kept (setCell_grown _ _ _ _) (by omega)).kept (setCell_grown _ _ _ _) (by omega)).kept (setCell_grown _ _ _ _) (by omega)).kept (setCell_grown _ _ _ _) (by omega)).kept (setCell_grown _ _ _ _) (by omega)).kept (setCell_grown _ _ _ _) (by omega)).kept (setCell_grown _ _ _ _) (by omega))
 have bZ : Hid (Below w.heap.size w Z) := by
  show Below _ _ _
  rw [← hZ]
  exact (bset (bset (bset (bset (bset (bset (bset (bset (bset (bset ⟨bV.out, by have := hsz.out; omega⟩ (Nat.le_add_right _ _)) (Nat.le_add_right _ _)) (Nat.le_add_right _ _)) (Nat.le_add_right _ _)) (Nat.le_add_right _ _)) (Nat.le_add_right _ _)) (Nat.le_add_right _ _)) (Nat.le_add_right _ _)) (Nat.le_add_right _ _)) (Nat.le_add_right _ _)).1
 have hl' := Lib.hid hl
 clear h hl zV qV sV bV hsz hbx hbv
 have s0 : Z.cell? ⟨w.heap.size, 0, none⟩ = some (.slice tq tn tc) := sZ.out.cell 0
 have a0 : Z.cell? ⟨w.heap.size + 1, 0, none⟩ = some (.int .i64 1) := qZ.out.cell 0
 have c0 : Z.cell? ⟨w.heap.size + 2, 0, none⟩ = some (.int .i64 1) := zZ.out.cell 0
 have a1 : Z.cell? ⟨w.heap.size + 1, 1, none⟩ = some (.int .i64 kt) := qZ.out.cell 1
 have c1 : Z.cell? ⟨w.heap.size + 2, 1, none⟩ = some (.int .i64 kt) := zZ.out.cell 1
 have a2 : Z.cell? ⟨w.heap.size + 1, 2, none⟩ = some (.int .u16 ki) := qZ.out.cell 2
 have c2 : Z.cell? ⟨w.heap.size + 2, 2, none⟩ = some (.int .u16 ki) := zZ.out.cell 2
 have a3 : Z.cell? ⟨w.heap.size + 1, 3, none⟩ = some (.int .i64 tt) := qZ.out.cell 3
 have c3 : Z.cell? ⟨w.heap.size + 2, 3, none⟩ = some (.int .i64 0) := zZ.out.cell 3
 have a4 : Z.cell? ⟨w.heap.size + 1, 4, none⟩ = some (.int .u16 ti) := qZ.out.cell 4
 have c4 : Z.cell? ⟨w.heap.size + 2, 4, none⟩ = some (.int .u16 0) := zZ.out.cell 4
 have a5 : Z.cell? ⟨w.heap.size + 1, 5, none⟩ = some (.int .i64 qv) := qZ.out.cell 5
 have c5 : Z.cell? ⟨w.heap.size + 2, 5, none⟩ = some (.int .i64 0) := zZ.out.cell 5
 have a6 : Z.cell? ⟨w.heap.size + 1, 6, none⟩ = some (.string qs) := qZ.out.cell 6
 have c6 : Z.cell? ⟨w.heap.size + 2, 6, none⟩ = some (.string ⟨#[]⟩) := zZ.out.cell 6
 have a7 : Z.cell? ⟨w.heap.size + 1, 7, none⟩ = some (.int .i64 qn) := qZ.out.cell 7
 have c7 : Z.cell? ⟨w.heap.size + 2, 7, none⟩ = some (.int .i64 0) := zZ.out.cell 7
 have heq := fun u => eq_req u 1 kt ki tt ti qv qs qn 1 kt ki 0 0 0 ⟨#[]⟩ 0
 obtain ⟨EQ, hEQ⟩ : ∃ b, zReq (othR ⟨1, ⟨kt, ki⟩, ⟨tt, ti⟩, qv, qs, qn⟩) = b := ⟨_, rfl⟩
 rw [want_1, hEQ] at heq
 have hrq : reqB bs ⟨1, ⟨kt, ki⟩, ⟨tt, ti⟩, qv, qs, qn⟩ = (EQ && cntB bs ⟨1, ⟨kt, ki⟩, ⟨tt, ti⟩, qv, qs, qn⟩) := by unfold reqB; rw [hEQ]
 have hno : Hid (EQ = true → qs.size = 0) := fun e => zReq_note (hEQ.trans e)
 have hcn : cntB bs ⟨1, ⟨kt, ki⟩, ⟨tt, ti⟩, qv, qs, qn⟩ = keyB bs ⟨kt, ki⟩ := rfl
 rw [hrq, hcn, key_bool hS]
 clear hrq hEQ hcn hS
 cases EQ with
 | false =>
   go_enter Try.func15, Try.ntmps15
   go_wp2
   go_ret
   exact ⟨rfl, bZ.out⟩
 | true =>
   have hs0 := Lib.hid (hno.out rfl)
   clear hno
   obtain ⟨ke, hke⟩ : ∃ x, keyE bs ⟨kt, ki⟩ = x := ⟨_, rfl⟩
   have hkc := keyError_any tq tn tc bs kt ki Z hl'.out
   rw [hke] at hkc ⊢
   have hkc := Lib.hid hkc
   clear hke
   by_cases h0 : ke = 0
   · subst h0
     go_enter Try.func15, Try.ntmps15
     go_wp2_with fail
     try clear y0 y0_ x0 f0 a0 c0 y1_ x1 f1 a1 c1 y2_ x2 f2 a2 c2 y3_ x3 f3 a3 c3 y4_ x4 f4 a4 c4 y5_ x5 f5 a5 c5 y6_ x6 f6 a6 c6 y7_ x7 f7 a7 c7 s0 hV hW hZ
     clear heq
     refine hkc.out.mono ?_
     rintro e u1 ⟨rfl, hb⟩
     have b1 := Lib.hid (bZ.out.trans (hb.mono bZ.out.size))
     have y6 : u1.cell? ⟨w.heap.size + 1, 6, none⟩ = some (.string qs) := (qZ.out.below hb).cell 6
     clear hb hkc
     have n8 : ((qs.size : Int) ≤ 8) := by have := hs0.out; omega
     go_wp2
     go_ret
     exact ⟨rfl, b1.out⟩
   · have d0 : (ke == 0) = false := by simpa using h0
     rw [d0]
     clear h0
     go_enter Try.func15, Try.ntmps15
     go_wp2_with fail
     try clear y0 y0_ x0 f0 a0 c0 y1_ x1 f1 a1 c1 y2_ x2 f2 a2 c2 y3_ x3 f3 a3 c3 y4_ x4 f4 a4 c4 y5_ x5 f5 a5 c5 y6_ x6 f6 a6 c6 y7_ x7 f7 a7 c7 s0 hV hW hZ
     clear heq
     refine hkc.out.mono ?_
     rintro e u1 ⟨rfl, hb⟩
     have b1 := Lib.hid (bZ.out.trans (hb.mono bZ.out.size))
     have y6 : u1.cell? ⟨w.heap.size + 1, 6, none⟩ = some (.string qs) := (qZ.out.below hb).cell 6
     clear hb hkc
     go_wp2
     go_ret
     exact ⟨rfl, b1.out⟩
set_option maxHeartbeats 4000000 in
theorem rrq_2 (kt ki tt ti qv : Int) (qs : ByteArray) (qn : Int) (tq : Option Addr) (tn tc : Nat) (bs : List BdD) (w : World) (h : SchOn w tq tn tc bs) (hS : okS bs = true) :
 Calls Try.prog 15 #[.agg #[.slice tq tn tc], .agg #[.int .i64 2, .int .i64 kt, .int .u16 ki, .int .i64 tt, .int .u16 ti, .int .i64 qv, .string qs, .int .i64 qn]] w (RqPost (reqB bs ⟨2, ⟨kt, ki⟩, ⟨tt, ti⟩, qv, qs, qn⟩) w) := by
 have hl := h.len
 obtain ⟨W, hW⟩ : ∃ W, (w.alloc (.cells #[.slice tq tn tc] 24)).alloc (.cells #[.int .i64 2, .int .i64 kt, .int .u16 ki, .int .i64 tt, .int .u16 ti, .int .i64 qv, .string qs, .int .i64 qn] 30) = W := ⟨_, rfl⟩
 have hbx := Lib.hid (two_rowsI (xs := [.slice tq tn tc]) (ys := [.int .i64 2, .int .i64 kt, .int .u16 ki, .int .i64 tt, .int .u16 ti, .int .i64 qv, .string qs, .int .i64 qn]) hW)
 have y0 : W.cell? ⟨w.heap.size + 1, 0, none⟩ = some (.int .i64 2) := hbx.out.2.2.1.cell 0
 have hWs : W.heap.size = w.heap.size + 2 := hbx.out.2.2.2
 obtain ⟨V, hV⟩ : ∃ V, W.alloc (.cells #[.int .i64 0, .int .i64 0, .int .u16 0, .int .i64 0, .int .u16 0, .int .i64 0, .string ⟨#[]⟩, .int .i64 0] 30) = V := ⟨_, rfl⟩
 have hbv := Lib.hid (one_rowI (xs := [.int .i64 0, .int .i64 0, .int .u16 0, .int .i64 0, .int .u16 0, .int .i64 0, .string ⟨#[]⟩, .int .i64 0]) hV)
 rw [hWs] at hbv
 have bV := Lib.hid (hbx.out.1.trans ((show Below W.heap.size W V by rw [hWs]; exact hbv.out.1).mono hbx.out.1.size))
 have sV := Lib.hid (hbx.out.2.1.below (show Below W.heap.size W V by rw [hWs]; exact hbv.out.1))
 have qV := Lib.hid (hbx.out.2.2.1.below (show Below W.heap.size W V by rw [hWs]; exact hbv.out.1))
 have zV := Lib.hid hbv.out.2.1
 have hsz : Hid (w.heap.size + 3 ≤ V.heap.size) := by have h1 := hbv.out.2.2; show _ ≤ _; omega
 have y0_ : V.cell? ⟨w.heap.size + 1, 0, none⟩ = some (.int .i64 2) := qV.out.cell 0
 have x0 : V.cell? ⟨w.heap.size + 2, 0, none⟩ = some (.int .i64 0) := zV.out.cell 0
 have f0 := zV.out.free 0
 have y1_ : V.cell? ⟨w.heap.size + 1, 1, none⟩ = some (.int .i64 kt) := qV.out.cell 1
 have x1 : V.cell? ⟨w.heap.size + 2, 1, none⟩ = some (.int .i64 0) := zV.out.cell 1
 have f1 := zV.out.free 1
 have y2_ : V.cell? ⟨w.heap.size + 1, 2, none⟩ = some (.int .u16 ki) := qV.out.cell 2
 have x2 : V.cell? ⟨w.heap.size + 2, 2, none⟩ = some (.int .u16 0) := zV.out.cell 2
 have f2 := zV.out.free 2
 have y3_ : V.cell? ⟨w.heap.size + 1, 3, none⟩ = some (.int .i64 tt) := qV.out.cell 3
 have x3 : V.cell? ⟨w.heap.size + 2, 3, none⟩ = some (.int .i64 0) := zV.out.cell 3
 have f3 := zV.out.free 3
 have y4_ : V.cell? ⟨w.heap.size + 1, 4, none⟩ = some (.int .u16 ti) := qV.out.cell 4
 have x4 : V.cell? ⟨w.heap.size + 2, 4, none⟩ = some (.int .u16 0) := zV.out.cell 4
 have f4 := zV.out.free 4
 have y5_ : V.cell? ⟨w.heap.size + 1, 5, none⟩ = some (.int .i64 qv) := qV.out.cell 5
 have x5 : V.cell? ⟨w.heap.size + 2, 5, none⟩ = some (.int .i64 0) := zV.out.cell 5
 have f5 := zV.out.free 5
 have y6_ : V.cell? ⟨w.heap.size + 1, 6, none⟩ = some (.string qs) := qV.out.cell 6
 have x6 : V.cell? ⟨w.heap.size + 2, 6, none⟩ = some (.string ⟨#[]⟩) := zV.out.cell 6
 have f6 := zV.out.free 6
 have y7_ : V.cell? ⟨w.heap.size + 1, 7, none⟩ = some (.int .i64 qn) := qV.out.cell 7
 have x7 : V.cell? ⟨w.heap.size + 2, 7, none⟩ = some (.int .i64 0) := zV.out.cell 7
 have f7 := zV.out.free 7
 obtain ⟨Z, hZ⟩ : ∃ Z, (((((((((V.setCell ⟨w.heap.size + 2, 0, none⟩ (.int .i64 2)).setCell ⟨w.heap.size + 2, 1, none⟩ (.int .i64 0)).setCell ⟨w.heap.size + 2, 2, none⟩ (.int .u16 0)).setCell ⟨w.heap.size + 2, 3, none⟩ (.int .i64 0)).setCell ⟨w.heap.size + 2, 4, none⟩ (.int .u16 0)).setCell ⟨w.heap.size + 2, 5, none⟩ (.int .i64 0)).setCell ⟨w.heap.size + 2, 6, none⟩ (.string ⟨#[]⟩)).setCell ⟨w.heap.size + 2, 7, none⟩ (.int .i64 0)).setCell ⟨w.heap.size + 2, 1, none⟩ (.int .i64 kt)) = Z := ⟨_, rfl⟩
 have zZ : Hid (RowV 30 Z (w.heap.size + 2) [.int .i64 2, .int .i64 kt, .int .u16 0, .int .i64 0, .int .u16 0, .int .i64 0, .string ⟨#[]⟩, .int .i64 0]) := by
  show RowV _ _ _ _
  rw [← hZ]
  exact (((((((((zV.out.set 0 (.int .i64 2)).set 1 (.int .i64 0)).set 2 (.int .u16 0)).set 3 (.int .i64 0)).set 4 (.int .u16 0)).set 5 (.int .i64 0)).set 6 (.string ⟨#[]⟩)).set 7 (.int .i64 0)).set 1 (.int .i64 kt))
 have qZ : Hid (RowV 30 Z (w.heap.size + 1) [.int .i64 2, .int .i64 kt, .int .u16 ki, .int .i64 tt, .int .u16 ti, .int .i64 qv, .string qs, .int .i64 qn]) := by
  show RowV _ _ _ _
  rw [← hZ]
  exact (((((((((qV.out.kept (setCell_grown _ _ _ _) (by omega)).kept (setCell_grown _ _ _ _) (by omega)).kept (setCell_grown _ _ _ _) (by omega)).kept (setCell_grown _ _ _ _) (by omega)).kept (setCell_grown _ _ _ _) (by omega)).kept (setCell_grown _ _ _ _) (by omega)).kept (setCell_grown _ _ _ _) (by omega)).kept (setCell_grown _ _ _ _) (by omega)).kept (setCell_grown _ _ _ _) (by omega))
 have sZ : Hid (RowV 24 Z w.heap.size [.slice tq tn tc]) := by
  show RowV _ _ _ _
  rw [← hZ]
  exact (((((((((sV.out.kept (setCell_grown _ _ _ _) (by omega)).kept (setCell_grown _ _ _ _) (by omega)).kept (setCell_grown _ _ _ _) (by omega)).kept (setCell_grown _ _ _ _) (by omega)).kept (setCell_grown _ _ _ _) (by omega)).kept (setCell_grown _ _ _ _) (by omega)).kept (setCell_grown _ _ _ _) (by omega)).kept (setCell_grown _ _ _ _) (by omega)).kept (setCell_grown _ _ _ _) (by omega))
 have bZ : Hid (Below w.heap.size w Z) := by
  show Below _ _ _
  rw [← hZ]
  exact (bset (bset (bset (bset (bset (bset (bset (bset (bset ⟨bV.out, by have := hsz.out; omega⟩ (Nat.le_add_right _ _)) (Nat.le_add_right _ _)) (Nat.le_add_right _ _)) (Nat.le_add_right _ _)) (Nat.le_add_right _ _)) (Nat.le_add_right _ _)) (Nat.le_add_right _ _)) (Nat.le_add_right _ _)) (Nat.le_add_right _ _)).1
 have hl' := Lib.hid hl
 clear h hl zV qV sV bV hsz hbx hbv
 have s0 : Z.cell? ⟨w.heap.size, 0, none⟩ = some (.slice tq tn tc) := sZ.out.cell 0
 have a0 : Z.cell? ⟨w.heap.size + 1, 0, none⟩ = some (.int .i64 2) := qZ.out.cell 0
 have c0 : Z.cell? ⟨w.heap.size + 2, 0, none⟩ = some (.int .i64 2) := zZ.out.cell 0
 have a1 : Z.cell? ⟨w.heap.size + 1, 1, none⟩ = some (.int .i64 kt) := qZ.out.cell 1
 have c1 : Z.cell? ⟨w.heap.size + 2, 1, none⟩ = some (.int .i64 kt) := zZ.out.cell 1
 have a2 : Z.cell? ⟨w.heap.size + 1, 2, none⟩ = some (.int .u16 ki) := qZ.out.cell 2
 have c2 : Z.cell? ⟨w.heap.size + 2, 2, none⟩ = some (.int .u16 0) := zZ.out.cell 2
 have a3 : Z.cell? ⟨w.heap.size + 1, 3, none⟩ = some (.int .i64 tt) := qZ.out.cell 3
 have c3 : Z.cell? ⟨w.heap.size + 2, 3, none⟩ = some (.int .i64 0) := zZ.out.cell 3
 have a4 : Z.cell? ⟨w.heap.size + 1, 4, none⟩ = some (.int .u16 ti) := qZ.out.cell 4
 have c4 : Z.cell? ⟨w.heap.size + 2, 4, none⟩ = some (.int .u16 0) := zZ.out.cell 4
 have a5 : Z.cell? ⟨w.heap.size + 1, 5, none⟩ = some (.int .i64 qv) := qZ.out.cell 5
 have c5 : Z.cell? ⟨w.heap.size + 2, 5, none⟩ = some (.int .i64 0) := zZ.out.cell 5
 have a6 : Z.cell? ⟨w.heap.size + 1, 6, none⟩ = some (.string qs) := qZ.out.cell 6
 have c6 : Z.cell? ⟨w.heap.size + 2, 6, none⟩ = some (.string ⟨#[]⟩) := zZ.out.cell 6
 have a7 : Z.cell? ⟨w.heap.size + 1, 7, none⟩ = some (.int .i64 qn) := qZ.out.cell 7
 have c7 : Z.cell? ⟨w.heap.size + 2, 7, none⟩ = some (.int .i64 0) := zZ.out.cell 7
 have heq := fun u => eq_req u 2 kt ki tt ti qv qs qn 2 kt 0 0 0 0 ⟨#[]⟩ 0
 obtain ⟨EQ, hEQ⟩ : ∃ b, zReq (othR ⟨2, ⟨kt, ki⟩, ⟨tt, ti⟩, qv, qs, qn⟩) = b := ⟨_, rfl⟩
 rw [want_2, hEQ] at heq
 have hrq : reqB bs ⟨2, ⟨kt, ki⟩, ⟨tt, ti⟩, qv, qs, qn⟩ = (EQ && cntB bs ⟨2, ⟨kt, ki⟩, ⟨tt, ti⟩, qv, qs, qn⟩) := by unfold reqB; rw [hEQ]
 have hno : Hid (EQ = true → qs.size = 0) := fun e => zReq_note (hEQ.trans e)
 have hcn : cntB bs ⟨2, ⟨kt, ki⟩, ⟨tt, ti⟩, qv, qs, qn⟩ = keyB bs ⟨kt, ki⟩ := rfl
 rw [hrq, hcn, key_bool hS]
 clear hrq hEQ hcn hS
 cases EQ with
 | false =>
   go_enter Try.func15, Try.ntmps15
   go_wp2
   go_ret
   exact ⟨rfl, bZ.out⟩
 | true =>
   have hs0 := Lib.hid (hno.out rfl)
   clear hno
   obtain ⟨ke, hke⟩ : ∃ x, keyE bs ⟨kt, ki⟩ = x := ⟨_, rfl⟩
   have hkc := keyError_any tq tn tc bs kt ki Z hl'.out
   rw [hke] at hkc ⊢
   have hkc := Lib.hid hkc
   clear hke
   by_cases h0 : ke = 0
   · subst h0
     go_enter Try.func15, Try.ntmps15
     go_wp2_with fail
     try clear y0 y0_ x0 f0 a0 c0 y1_ x1 f1 a1 c1 y2_ x2 f2 a2 c2 y3_ x3 f3 a3 c3 y4_ x4 f4 a4 c4 y5_ x5 f5 a5 c5 y6_ x6 f6 a6 c6 y7_ x7 f7 a7 c7 s0 hV hW hZ
     clear heq
     refine hkc.out.mono ?_
     rintro e u1 ⟨rfl, hb⟩
     have b1 := Lib.hid (bZ.out.trans (hb.mono bZ.out.size))
     have y6 : u1.cell? ⟨w.heap.size + 1, 6, none⟩ = some (.string qs) := (qZ.out.below hb).cell 6
     clear hb hkc
     have n8 : ((qs.size : Int) ≤ 8) := by have := hs0.out; omega
     go_wp2
     go_ret
     exact ⟨rfl, b1.out⟩
   · have d0 : (ke == 0) = false := by simpa using h0
     rw [d0]
     clear h0
     go_enter Try.func15, Try.ntmps15
     go_wp2_with fail
     try clear y0 y0_ x0 f0 a0 c0 y1_ x1 f1 a1 c1 y2_ x2 f2 a2 c2 y3_ x3 f3 a3 c3 y4_ x4 f4 a4 c4 y5_ x5 f5 a5 c5 y6_ x6 f6 a6 c6 y7_ x7 f7 a7 c7 s0 hV hW hZ
     clear heq
     refine hkc.out.mono ?_
     rintro e u1 ⟨rfl, hb⟩
     have b1 := Lib.hid (bZ.out.trans (hb.mono bZ.out.size))
     have y6 : u1.cell? ⟨w.heap.size + 1, 6, none⟩ = some (.string qs) := (qZ.out.below hb).cell 6
     clear hb hkc
     go_wp2
     go_ret
     exact ⟨rfl, b1.out⟩
set_option maxHeartbeats 4000000 in
theorem rrq_3 (kt ki tt ti qv : Int) (qs : ByteArray) (qn : Int) (tq : Option Addr) (tn tc : Nat) (bs : List BdD) (w : World) (h : SchOn w tq tn tc bs) (hS : okS bs = true) (hqs : qs.size ≤ maxLen) :
 Calls Try.prog 15 #[.agg #[.slice tq tn tc], .agg #[.int .i64 3, .int .i64 kt, .int .u16 ki, .int .i64 tt, .int .u16 ti, .int .i64 qv, .string qs, .int .i64 qn]] w (RqPost (reqB bs ⟨3, ⟨kt, ki⟩, ⟨tt, ti⟩, qv, qs, qn⟩) w) := by
 have hl := h.len
 unfold maxLen at hqs
 obtain ⟨W, hW⟩ : ∃ W, (w.alloc (.cells #[.slice tq tn tc] 24)).alloc (.cells #[.int .i64 3, .int .i64 kt, .int .u16 ki, .int .i64 tt, .int .u16 ti, .int .i64 qv, .string qs, .int .i64 qn] 30) = W := ⟨_, rfl⟩
 have hbx := Lib.hid (two_rowsI (xs := [.slice tq tn tc]) (ys := [.int .i64 3, .int .i64 kt, .int .u16 ki, .int .i64 tt, .int .u16 ti, .int .i64 qv, .string qs, .int .i64 qn]) hW)
 have y0 : W.cell? ⟨w.heap.size + 1, 0, none⟩ = some (.int .i64 3) := hbx.out.2.2.1.cell 0
 have hWs : W.heap.size = w.heap.size + 2 := hbx.out.2.2.2
 obtain ⟨V, hV⟩ : ∃ V, W.alloc (.cells #[.int .i64 0, .int .i64 0, .int .u16 0, .int .i64 0, .int .u16 0, .int .i64 0, .string ⟨#[]⟩, .int .i64 0] 30) = V := ⟨_, rfl⟩
 have hbv := Lib.hid (one_rowI (xs := [.int .i64 0, .int .i64 0, .int .u16 0, .int .i64 0, .int .u16 0, .int .i64 0, .string ⟨#[]⟩, .int .i64 0]) hV)
 rw [hWs] at hbv
 have bV := Lib.hid (hbx.out.1.trans ((show Below W.heap.size W V by rw [hWs]; exact hbv.out.1).mono hbx.out.1.size))
 have sV := Lib.hid (hbx.out.2.1.below (show Below W.heap.size W V by rw [hWs]; exact hbv.out.1))
 have qV := Lib.hid (hbx.out.2.2.1.below (show Below W.heap.size W V by rw [hWs]; exact hbv.out.1))
 have zV := Lib.hid hbv.out.2.1
 have hsz : Hid (w.heap.size + 3 ≤ V.heap.size) := by have h1 := hbv.out.2.2; show _ ≤ _; omega
 have y0_ : V.cell? ⟨w.heap.size + 1, 0, none⟩ = some (.int .i64 3) := qV.out.cell 0
 have x0 : V.cell? ⟨w.heap.size + 2, 0, none⟩ = some (.int .i64 0) := zV.out.cell 0
 have f0 := zV.out.free 0
 have y1_ : V.cell? ⟨w.heap.size + 1, 1, none⟩ = some (.int .i64 kt) := qV.out.cell 1
 have x1 : V.cell? ⟨w.heap.size + 2, 1, none⟩ = some (.int .i64 0) := zV.out.cell 1
 have f1 := zV.out.free 1
 have y2_ : V.cell? ⟨w.heap.size + 1, 2, none⟩ = some (.int .u16 ki) := qV.out.cell 2
 have x2 : V.cell? ⟨w.heap.size + 2, 2, none⟩ = some (.int .u16 0) := zV.out.cell 2
 have f2 := zV.out.free 2
 have y3_ : V.cell? ⟨w.heap.size + 1, 3, none⟩ = some (.int .i64 tt) := qV.out.cell 3
 have x3 : V.cell? ⟨w.heap.size + 2, 3, none⟩ = some (.int .i64 0) := zV.out.cell 3
 have f3 := zV.out.free 3
 have y4_ : V.cell? ⟨w.heap.size + 1, 4, none⟩ = some (.int .u16 ti) := qV.out.cell 4
 have x4 : V.cell? ⟨w.heap.size + 2, 4, none⟩ = some (.int .u16 0) := zV.out.cell 4
 have f4 := zV.out.free 4
 have y5_ : V.cell? ⟨w.heap.size + 1, 5, none⟩ = some (.int .i64 qv) := qV.out.cell 5
 have x5 : V.cell? ⟨w.heap.size + 2, 5, none⟩ = some (.int .i64 0) := zV.out.cell 5
 have f5 := zV.out.free 5
 have y6_ : V.cell? ⟨w.heap.size + 1, 6, none⟩ = some (.string qs) := qV.out.cell 6
 have x6 : V.cell? ⟨w.heap.size + 2, 6, none⟩ = some (.string ⟨#[]⟩) := zV.out.cell 6
 have f6 := zV.out.free 6
 have y7_ : V.cell? ⟨w.heap.size + 1, 7, none⟩ = some (.int .i64 qn) := qV.out.cell 7
 have x7 : V.cell? ⟨w.heap.size + 2, 7, none⟩ = some (.int .i64 0) := zV.out.cell 7
 have f7 := zV.out.free 7
 obtain ⟨Z, hZ⟩ : ∃ Z, ((((((((((((V.setCell ⟨w.heap.size + 2, 0, none⟩ (.int .i64 3)).setCell ⟨w.heap.size + 2, 1, none⟩ (.int .i64 0)).setCell ⟨w.heap.size + 2, 2, none⟩ (.int .u16 0)).setCell ⟨w.heap.size + 2, 3, none⟩ (.int .i64 0)).setCell ⟨w.heap.size + 2, 4, none⟩ (.int .u16 0)).setCell ⟨w.heap.size + 2, 5, none⟩ (.int .i64 0)).setCell ⟨w.heap.size + 2, 6, none⟩ (.string ⟨#[]⟩)).setCell ⟨w.heap.size + 2, 7, none⟩ (.int .i64 0)).setCell ⟨w.heap.size + 2, 1, none⟩ (.int .i64 kt)).setCell ⟨w.heap.size + 2, 2, none⟩ (.int .u16 ki)).setCell ⟨w.heap.size + 2, 5, none⟩ (.int .i64 qv)).setCell ⟨w.heap.size + 2, 6, none⟩ (.string qs)) = Z := ⟨_, rfl⟩
 have zZ : Hid (RowV 30 Z (w.heap.size + 2) [.int .i64 3, .int .i64 kt, .int .u16 ki, .int .i64 0, .int .u16 0, .int .i64 qv, .string qs, .int .i64 0]) := by
  show RowV _ _ _ _
  rw [← hZ]
  exact ((((((((((((zV.out.set 0 (.int .i64 3)).set 1 (.int .i64 0)).set 2 (.int .u16 0)).set 3 (.int .i64 0)).set 4 (.int .u16 0)).set 5 (.int .i64 0)).set 6 (.string ⟨#[]⟩)).set 7 (.int .i64 0)).set 1 (.int .i64 kt)).set 2 (.int .u16 ki)).set 5 (.int .i64 qv)).set 6 (.string qs))
 have qZ : Hid (RowV 30 Z (w.heap.size + 1) [.int .i64 3, .int .i64 kt, .int .u16 ki, .int .i64 tt, .int .u16 ti, .int .i64 qv, .string qs, .int .i64 qn]) := by
  show RowV _ _ _ _
  rw [← hZ]
  exact ((((((((((((qV.out.kept (setCell_grown _ _ _ _) (by omega)).kept (setCell_grown _ _ _ _) (by omega)).kept (setCell_grown _ _ _ _) (by omega)).kept (setCell_grown _ _ _ _) (by omega)).kept (setCell_grown _ _ _ _) (by omega)).kept (setCell_grown _ _ _ _) (by omega)).kept (setCell_grown _ _ _ _) (by omega)).kept (setCell_grown _ _ _ _) (by omega)).kept (setCell_grown _ _ _ _) (by omega)).kept (setCell_grown _ _ _ _) (by omega)).kept (setCell_grown _ _ _ _) (by omega)).kept (setCell_grown _ _ _ _) (by omega))
 have sZ : Hid (RowV 24 Z w.heap.size [.slice tq tn tc]) := by
  show RowV _ _ _ _
  rw [← hZ]
  exact ((((((((((((sV.out.kept (setCell_grown _ _ _ _) (by omega)).kept (setCell_grown _ _ _ _) (by omega)).kept (setCell_grown _ _ _ _) (by omega)).kept (setCell_grown _ _ _ _) (by omega)).kept (setCell_grown _ _ _ _) (by omega)).kept (setCell_grown _ _ _ _) (by omega)).kept (setCell_grown _ _ _ _) (by omega)).kept (setCell_grown _ _ _ _) (by omega)).kept (setCell_grown _ _ _ _) (by omega)).kept (setCell_grown _ _ _ _) (by omega)).kept (setCell_grown _ _ _ _) (by omega)).kept (setCell_grown _ _ _ _) (by omega))
 have bZ : Hid (Below w.heap.size w Z) := by
  show Below _ _ _
  rw [← hZ]
  exact (bset (bset (bset (bset (bset (bset (bset (bset (bset (bset (bset (bset ⟨bV.out, by have := hsz.out; omega⟩ (Nat.le_add_right _ _)) (Nat.le_add_right _ _)) (Nat.le_add_right _ _)) (Nat.le_add_right _ _)) (Nat.le_add_right _ _)) (Nat.le_add_right _ _)) (Nat.le_add_right _ _)) (Nat.le_add_right _ _)) (Nat.le_add_right _ _)) (Nat.le_add_right _ _)) (Nat.le_add_right _ _)) (Nat.le_add_right _ _)).1
 have hl' := Lib.hid hl
 clear h hl zV qV sV bV hsz hbx hbv
 have s0 : Z.cell? ⟨w.heap.size, 0, none⟩ = some (.slice tq tn tc) := sZ.out.cell 0
 have a0 : Z.cell? ⟨w.heap.size + 1, 0, none⟩ = some (.int .i64 3) := qZ.out.cell 0
 have c0 : Z.cell? ⟨w.heap.size + 2, 0, none⟩ = some (.int .i64 3) := zZ.out.cell 0
 have a1 : Z.cell? ⟨w.heap.size + 1, 1, none⟩ = some (.int .i64 kt) := qZ.out.cell 1
 have c1 : Z.cell? ⟨w.heap.size + 2, 1, none⟩ = some (.int .i64 kt) := zZ.out.cell 1
 have a2 : Z.cell? ⟨w.heap.size + 1, 2, none⟩ = some (.int .u16 ki) := qZ.out.cell 2
 have c2 : Z.cell? ⟨w.heap.size + 2, 2, none⟩ = some (.int .u16 ki) := zZ.out.cell 2
 have a3 : Z.cell? ⟨w.heap.size + 1, 3, none⟩ = some (.int .i64 tt) := qZ.out.cell 3
 have c3 : Z.cell? ⟨w.heap.size + 2, 3, none⟩ = some (.int .i64 0) := zZ.out.cell 3
 have a4 : Z.cell? ⟨w.heap.size + 1, 4, none⟩ = some (.int .u16 ti) := qZ.out.cell 4
 have c4 : Z.cell? ⟨w.heap.size + 2, 4, none⟩ = some (.int .u16 0) := zZ.out.cell 4
 have a5 : Z.cell? ⟨w.heap.size + 1, 5, none⟩ = some (.int .i64 qv) := qZ.out.cell 5
 have c5 : Z.cell? ⟨w.heap.size + 2, 5, none⟩ = some (.int .i64 qv) := zZ.out.cell 5
 have a6 : Z.cell? ⟨w.heap.size + 1, 6, none⟩ = some (.string qs) := qZ.out.cell 6
 have c6 : Z.cell? ⟨w.heap.size + 2, 6, none⟩ = some (.string qs) := zZ.out.cell 6
 have a7 : Z.cell? ⟨w.heap.size + 1, 7, none⟩ = some (.int .i64 qn) := qZ.out.cell 7
 have c7 : Z.cell? ⟨w.heap.size + 2, 7, none⟩ = some (.int .i64 0) := zZ.out.cell 7
 have heq := fun u => eq_req u 3 kt ki tt ti qv qs qn 3 kt ki 0 0 qv qs 0
 obtain ⟨EQ, hEQ⟩ : ∃ b, zReq (othR ⟨3, ⟨kt, ki⟩, ⟨tt, ti⟩, qv, qs, qn⟩) = b := ⟨_, rfl⟩
 rw [want_3, hEQ] at heq
 have hrq : reqB bs ⟨3, ⟨kt, ki⟩, ⟨tt, ti⟩, qv, qs, qn⟩ = (EQ && cntB bs ⟨3, ⟨kt, ki⟩, ⟨tt, ti⟩, qv, qs, qn⟩) := by unfold reqB; rw [hEQ]
 have hno : Hid (EQ = true → True) := fun e => trivial
 have hcn : cntB bs ⟨3, ⟨kt, ki⟩, ⟨tt, ti⟩, qv, qs, qn⟩ = (keyB bs ⟨kt, ki⟩ && decide (qs.size ≤ 8)) := rfl
 rw [hrq, hcn, key_bool hS]
 clear hrq hEQ hcn hS
 cases EQ with
 | false =>
   go_enter Try.func15, Try.ntmps15
   go_wp2
   go_ret
   exact ⟨rfl, bZ.out⟩
 | true =>
   clear hno
   obtain ⟨ke, hke⟩ : ∃ x, keyE bs ⟨kt, ki⟩ = x := ⟨_, rfl⟩
   have hkc := keyError_any tq tn tc bs kt ki Z hl'.out
   rw [hke] at hkc ⊢
   have hkc := Lib.hid hkc
   clear hke
   by_cases h0 : ke = 0
   · subst h0
     by_cases h8 : qs.size ≤ 8
     · rw [decide_eq_true h8]
       go_enter Try.func15, Try.ntmps15
       go_wp2_with fail
       try clear y0 y0_ x0 f0 a0 c0 y1_ x1 f1 a1 c1 y2_ x2 f2 a2 c2 y3_ x3 f3 a3 c3 y4_ x4 f4 a4 c4 y5_ x5 f5 a5 c5 y6_ x6 f6 a6 c6 y7_ x7 f7 a7 c7 s0 hV hW hZ
       clear heq
       refine hkc.out.mono ?_
       rintro e u1 ⟨rfl, hb⟩
       have b1 := Lib.hid (bZ.out.trans (hb.mono bZ.out.size))
       have y6 : u1.cell? ⟨w.heap.size + 1, 6, none⟩ = some (.string qs) := (qZ.out.below hb).cell 6
       clear hb hkc
       have n8 : ((qs.size : Int) ≤ 8) := by omega
       clear h8
       go_wp2
       go_ret
       exact ⟨rfl, b1.out⟩
     · rw [decide_eq_false h8]
       go_enter Try.func15, Try.ntmps15
       go_wp2_with fail
       try clear y0 y0_ x0 f0 a0 c0 y1_ x1 f1 a1 c1 y2_ x2 f2 a2 c2 y3_ x3 f3 a3 c3 y4_ x4 f4 a4 c4 y5_ x5 f5 a5 c5 y6_ x6 f6 a6 c6 y7_ x7 f7 a7 c7 s0 hV hW hZ
       clear heq
       refine hkc.out.mono ?_
       rintro e u1 ⟨rfl, hb⟩
       have b1 := Lib.hid (bZ.out.trans (hb.mono bZ.out.size))
       have y6 : u1.cell? ⟨w.heap.size + 1, 6, none⟩ = some (.string qs) := (qZ.out.below hb).cell 6
       clear hb hkc
       have n8 : decide ((qs.size : Int) ≤ 8) = false := decide_eq_false (by omega)
       clear h8
       go_wp2
       go_ret
       exact ⟨rfl, b1.out⟩
   · have d0 : (ke == 0) = false := by simpa using h0
     rw [d0]
     clear h0
     go_enter Try.func15, Try.ntmps15
     go_wp2_with fail
     try clear y0 y0_ x0 f0 a0 c0 y1_ x1 f1 a1 c1 y2_ x2 f2 a2 c2 y3_ x3 f3 a3 c3 y4_ x4 f4 a4 c4 y5_ x5 f5 a5 c5 y6_ x6 f6 a6 c6 y7_ x7 f7 a7 c7 s0 hV hW hZ
     clear heq
     refine hkc.out.mono ?_
     rintro e u1 ⟨rfl, hb⟩
     have b1 := Lib.hid (bZ.out.trans (hb.mono bZ.out.size))
     have y6 : u1.cell? ⟨w.heap.size + 1, 6, none⟩ = some (.string qs) := (qZ.out.below hb).cell 6
     clear hb hkc
     go_wp2
     go_ret
     exact ⟨rfl, b1.out⟩
set_option maxHeartbeats 4000000 in
theorem rrq_4 (kt ki tt ti qv : Int) (qs : ByteArray) (qn : Int) (tq : Option Addr) (tn tc : Nat) (bs : List BdD) (w : World) (h : SchOn w tq tn tc bs) (hS : okS bs = true) :
 Calls Try.prog 15 #[.agg #[.slice tq tn tc], .agg #[.int .i64 4, .int .i64 kt, .int .u16 ki, .int .i64 tt, .int .u16 ti, .int .i64 qv, .string qs, .int .i64 qn]] w (RqPost (reqB bs ⟨4, ⟨kt, ki⟩, ⟨tt, ti⟩, qv, qs, qn⟩) w) := by
 have hl := h.len
 obtain ⟨W, hW⟩ : ∃ W, (w.alloc (.cells #[.slice tq tn tc] 24)).alloc (.cells #[.int .i64 4, .int .i64 kt, .int .u16 ki, .int .i64 tt, .int .u16 ti, .int .i64 qv, .string qs, .int .i64 qn] 30) = W := ⟨_, rfl⟩
 have hbx := Lib.hid (two_rowsI (xs := [.slice tq tn tc]) (ys := [.int .i64 4, .int .i64 kt, .int .u16 ki, .int .i64 tt, .int .u16 ti, .int .i64 qv, .string qs, .int .i64 qn]) hW)
 have y0 : W.cell? ⟨w.heap.size + 1, 0, none⟩ = some (.int .i64 4) := hbx.out.2.2.1.cell 0
 have hWs : W.heap.size = w.heap.size + 2 := hbx.out.2.2.2
 obtain ⟨V, hV⟩ : ∃ V, W.alloc (.cells #[.int .i64 0, .int .i64 0, .int .u16 0, .int .i64 0, .int .u16 0, .int .i64 0, .string ⟨#[]⟩, .int .i64 0] 30) = V := ⟨_, rfl⟩
 have hbv := Lib.hid (one_rowI (xs := [.int .i64 0, .int .i64 0, .int .u16 0, .int .i64 0, .int .u16 0, .int .i64 0, .string ⟨#[]⟩, .int .i64 0]) hV)
 rw [hWs] at hbv
 have bV := Lib.hid (hbx.out.1.trans ((show Below W.heap.size W V by rw [hWs]; exact hbv.out.1).mono hbx.out.1.size))
 have sV := Lib.hid (hbx.out.2.1.below (show Below W.heap.size W V by rw [hWs]; exact hbv.out.1))
 have qV := Lib.hid (hbx.out.2.2.1.below (show Below W.heap.size W V by rw [hWs]; exact hbv.out.1))
 have zV := Lib.hid hbv.out.2.1
 have hsz : Hid (w.heap.size + 3 ≤ V.heap.size) := by have h1 := hbv.out.2.2; show _ ≤ _; omega
 have y0_ : V.cell? ⟨w.heap.size + 1, 0, none⟩ = some (.int .i64 4) := qV.out.cell 0
 have x0 : V.cell? ⟨w.heap.size + 2, 0, none⟩ = some (.int .i64 0) := zV.out.cell 0
 have f0 := zV.out.free 0
 have y1_ : V.cell? ⟨w.heap.size + 1, 1, none⟩ = some (.int .i64 kt) := qV.out.cell 1
 have x1 : V.cell? ⟨w.heap.size + 2, 1, none⟩ = some (.int .i64 0) := zV.out.cell 1
 have f1 := zV.out.free 1
 have y2_ : V.cell? ⟨w.heap.size + 1, 2, none⟩ = some (.int .u16 ki) := qV.out.cell 2
 have x2 : V.cell? ⟨w.heap.size + 2, 2, none⟩ = some (.int .u16 0) := zV.out.cell 2
 have f2 := zV.out.free 2
 have y3_ : V.cell? ⟨w.heap.size + 1, 3, none⟩ = some (.int .i64 tt) := qV.out.cell 3
 have x3 : V.cell? ⟨w.heap.size + 2, 3, none⟩ = some (.int .i64 0) := zV.out.cell 3
 have f3 := zV.out.free 3
 have y4_ : V.cell? ⟨w.heap.size + 1, 4, none⟩ = some (.int .u16 ti) := qV.out.cell 4
 have x4 : V.cell? ⟨w.heap.size + 2, 4, none⟩ = some (.int .u16 0) := zV.out.cell 4
 have f4 := zV.out.free 4
 have y5_ : V.cell? ⟨w.heap.size + 1, 5, none⟩ = some (.int .i64 qv) := qV.out.cell 5
 have x5 : V.cell? ⟨w.heap.size + 2, 5, none⟩ = some (.int .i64 0) := zV.out.cell 5
 have f5 := zV.out.free 5
 have y6_ : V.cell? ⟨w.heap.size + 1, 6, none⟩ = some (.string qs) := qV.out.cell 6
 have x6 : V.cell? ⟨w.heap.size + 2, 6, none⟩ = some (.string ⟨#[]⟩) := zV.out.cell 6
 have f6 := zV.out.free 6
 have y7_ : V.cell? ⟨w.heap.size + 1, 7, none⟩ = some (.int .i64 qn) := qV.out.cell 7
 have x7 : V.cell? ⟨w.heap.size + 2, 7, none⟩ = some (.int .i64 0) := zV.out.cell 7
 have f7 := zV.out.free 7
 obtain ⟨Z, hZ⟩ : ∃ Z, ((((((((((V.setCell ⟨w.heap.size + 2, 0, none⟩ (.int .i64 4)).setCell ⟨w.heap.size + 2, 1, none⟩ (.int .i64 0)).setCell ⟨w.heap.size + 2, 2, none⟩ (.int .u16 0)).setCell ⟨w.heap.size + 2, 3, none⟩ (.int .i64 0)).setCell ⟨w.heap.size + 2, 4, none⟩ (.int .u16 0)).setCell ⟨w.heap.size + 2, 5, none⟩ (.int .i64 0)).setCell ⟨w.heap.size + 2, 6, none⟩ (.string ⟨#[]⟩)).setCell ⟨w.heap.size + 2, 7, none⟩ (.int .i64 0)).setCell ⟨w.heap.size + 2, 1, none⟩ (.int .i64 kt)).setCell ⟨w.heap.size + 2, 2, none⟩ (.int .u16 ki)) = Z := ⟨_, rfl⟩
 have zZ : Hid (RowV 30 Z (w.heap.size + 2) [.int .i64 4, .int .i64 kt, .int .u16 ki, .int .i64 0, .int .u16 0, .int .i64 0, .string ⟨#[]⟩, .int .i64 0]) := by
  show RowV _ _ _ _
  rw [← hZ]
  exact ((((((((((zV.out.set 0 (.int .i64 4)).set 1 (.int .i64 0)).set 2 (.int .u16 0)).set 3 (.int .i64 0)).set 4 (.int .u16 0)).set 5 (.int .i64 0)).set 6 (.string ⟨#[]⟩)).set 7 (.int .i64 0)).set 1 (.int .i64 kt)).set 2 (.int .u16 ki))
 have qZ : Hid (RowV 30 Z (w.heap.size + 1) [.int .i64 4, .int .i64 kt, .int .u16 ki, .int .i64 tt, .int .u16 ti, .int .i64 qv, .string qs, .int .i64 qn]) := by
  show RowV _ _ _ _
  rw [← hZ]
  exact ((((((((((qV.out.kept (setCell_grown _ _ _ _) (by omega)).kept (setCell_grown _ _ _ _) (by omega)).kept (setCell_grown _ _ _ _) (by omega)).kept (setCell_grown _ _ _ _) (by omega)).kept (setCell_grown _ _ _ _) (by omega)).kept (setCell_grown _ _ _ _) (by omega)).kept (setCell_grown _ _ _ _) (by omega)).kept (setCell_grown _ _ _ _) (by omega)).kept (setCell_grown _ _ _ _) (by omega)).kept (setCell_grown _ _ _ _) (by omega))
 have sZ : Hid (RowV 24 Z w.heap.size [.slice tq tn tc]) := by
  show RowV _ _ _ _
  rw [← hZ]
  exact ((((((((((sV.out.kept (setCell_grown _ _ _ _) (by omega)).kept (setCell_grown _ _ _ _) (by omega)).kept (setCell_grown _ _ _ _) (by omega)).kept (setCell_grown _ _ _ _) (by omega)).kept (setCell_grown _ _ _ _) (by omega)).kept (setCell_grown _ _ _ _) (by omega)).kept (setCell_grown _ _ _ _) (by omega)).kept (setCell_grown _ _ _ _) (by omega)).kept (setCell_grown _ _ _ _) (by omega)).kept (setCell_grown _ _ _ _) (by omega))
 have bZ : Hid (Below w.heap.size w Z) := by
  show Below _ _ _
  rw [← hZ]
  exact (bset (bset (bset (bset (bset (bset (bset (bset (bset (bset ⟨bV.out, by have := hsz.out; omega⟩ (Nat.le_add_right _ _)) (Nat.le_add_right _ _)) (Nat.le_add_right _ _)) (Nat.le_add_right _ _)) (Nat.le_add_right _ _)) (Nat.le_add_right _ _)) (Nat.le_add_right _ _)) (Nat.le_add_right _ _)) (Nat.le_add_right _ _)) (Nat.le_add_right _ _)).1
 have hl' := Lib.hid hl
 clear h hl zV qV sV bV hsz hbx hbv
 have s0 : Z.cell? ⟨w.heap.size, 0, none⟩ = some (.slice tq tn tc) := sZ.out.cell 0
 have a0 : Z.cell? ⟨w.heap.size + 1, 0, none⟩ = some (.int .i64 4) := qZ.out.cell 0
 have c0 : Z.cell? ⟨w.heap.size + 2, 0, none⟩ = some (.int .i64 4) := zZ.out.cell 0
 have a1 : Z.cell? ⟨w.heap.size + 1, 1, none⟩ = some (.int .i64 kt) := qZ.out.cell 1
 have c1 : Z.cell? ⟨w.heap.size + 2, 1, none⟩ = some (.int .i64 kt) := zZ.out.cell 1
 have a2 : Z.cell? ⟨w.heap.size + 1, 2, none⟩ = some (.int .u16 ki) := qZ.out.cell 2
 have c2 : Z.cell? ⟨w.heap.size + 2, 2, none⟩ = some (.int .u16 ki) := zZ.out.cell 2
 have a3 : Z.cell? ⟨w.heap.size + 1, 3, none⟩ = some (.int .i64 tt) := qZ.out.cell 3
 have c3 : Z.cell? ⟨w.heap.size + 2, 3, none⟩ = some (.int .i64 0) := zZ.out.cell 3
 have a4 : Z.cell? ⟨w.heap.size + 1, 4, none⟩ = some (.int .u16 ti) := qZ.out.cell 4
 have c4 : Z.cell? ⟨w.heap.size + 2, 4, none⟩ = some (.int .u16 0) := zZ.out.cell 4
 have a5 : Z.cell? ⟨w.heap.size + 1, 5, none⟩ = some (.int .i64 qv) := qZ.out.cell 5
 have c5 : Z.cell? ⟨w.heap.size + 2, 5, none⟩ = some (.int .i64 0) := zZ.out.cell 5
 have a6 : Z.cell? ⟨w.heap.size + 1, 6, none⟩ = some (.string qs) := qZ.out.cell 6
 have c6 : Z.cell? ⟨w.heap.size + 2, 6, none⟩ = some (.string ⟨#[]⟩) := zZ.out.cell 6
 have a7 : Z.cell? ⟨w.heap.size + 1, 7, none⟩ = some (.int .i64 qn) := qZ.out.cell 7
 have c7 : Z.cell? ⟨w.heap.size + 2, 7, none⟩ = some (.int .i64 0) := zZ.out.cell 7
 have heq := fun u => eq_req u 4 kt ki tt ti qv qs qn 4 kt ki 0 0 0 ⟨#[]⟩ 0
 obtain ⟨EQ, hEQ⟩ : ∃ b, zReq (othR ⟨4, ⟨kt, ki⟩, ⟨tt, ti⟩, qv, qs, qn⟩) = b := ⟨_, rfl⟩
 rw [want_4, hEQ] at heq
 have hrq : reqB bs ⟨4, ⟨kt, ki⟩, ⟨tt, ti⟩, qv, qs, qn⟩ = (EQ && cntB bs ⟨4, ⟨kt, ki⟩, ⟨tt, ti⟩, qv, qs, qn⟩) := by unfold reqB; rw [hEQ]
 have hno : Hid (EQ = true → qs.size = 0) := fun e => zReq_note (hEQ.trans e)
 have hcn : cntB bs ⟨4, ⟨kt, ki⟩, ⟨tt, ti⟩, qv, qs, qn⟩ = keyB bs ⟨kt, ki⟩ := rfl
 rw [hrq, hcn, key_bool hS]
 clear hrq hEQ hcn hS
 cases EQ with
 | false =>
   go_enter Try.func15, Try.ntmps15
   go_wp2
   go_ret
   exact ⟨rfl, bZ.out⟩
 | true =>
   have hs0 := Lib.hid (hno.out rfl)
   clear hno
   obtain ⟨ke, hke⟩ : ∃ x, keyE bs ⟨kt, ki⟩ = x := ⟨_, rfl⟩
   have hkc := keyError_any tq tn tc bs kt ki Z hl'.out
   rw [hke] at hkc ⊢
   have hkc := Lib.hid hkc
   clear hke
   by_cases h0 : ke = 0
   · subst h0
     go_enter Try.func15, Try.ntmps15
     go_wp2_with fail
     try clear y0 y0_ x0 f0 a0 c0 y1_ x1 f1 a1 c1 y2_ x2 f2 a2 c2 y3_ x3 f3 a3 c3 y4_ x4 f4 a4 c4 y5_ x5 f5 a5 c5 y6_ x6 f6 a6 c6 y7_ x7 f7 a7 c7 s0 hV hW hZ
     clear heq
     refine hkc.out.mono ?_
     rintro e u1 ⟨rfl, hb⟩
     have b1 := Lib.hid (bZ.out.trans (hb.mono bZ.out.size))
     have y6 : u1.cell? ⟨w.heap.size + 1, 6, none⟩ = some (.string qs) := (qZ.out.below hb).cell 6
     clear hb hkc
     have n8 : ((qs.size : Int) ≤ 8) := by have := hs0.out; omega
     go_wp2
     go_ret
     exact ⟨rfl, b1.out⟩
   · have d0 : (ke == 0) = false := by simpa using h0
     rw [d0]
     clear h0
     go_enter Try.func15, Try.ntmps15
     go_wp2_with fail
     try clear y0 y0_ x0 f0 a0 c0 y1_ x1 f1 a1 c1 y2_ x2 f2 a2 c2 y3_ x3 f3 a3 c3 y4_ x4 f4 a4 c4 y5_ x5 f5 a5 c5 y6_ x6 f6 a6 c6 y7_ x7 f7 a7 c7 s0 hV hW hZ
     clear heq
     refine hkc.out.mono ?_
     rintro e u1 ⟨rfl, hb⟩
     have b1 := Lib.hid (bZ.out.trans (hb.mono bZ.out.size))
     have y6 : u1.cell? ⟨w.heap.size + 1, 6, none⟩ = some (.string qs) := (qZ.out.below hb).cell 6
     clear hb hkc
     go_wp2
     go_ret
     exact ⟨rfl, b1.out⟩
set_option maxHeartbeats 4000000 in
theorem rrq_5 (kt ki tt ti qv : Int) (qs : ByteArray) (qn : Int) (tq : Option Addr) (tn tc : Nat) (bs : List BdD) (w : World) (h : SchOn w tq tn tc bs) (hS : okS bs = true) (hqs : qs.size ≤ maxLen) :
 Calls Try.prog 15 #[.agg #[.slice tq tn tc], .agg #[.int .i64 5, .int .i64 kt, .int .u16 ki, .int .i64 tt, .int .u16 ti, .int .i64 qv, .string qs, .int .i64 qn]] w (RqPost (reqB bs ⟨5, ⟨kt, ki⟩, ⟨tt, ti⟩, qv, qs, qn⟩) w) := by
 have hl := h.len
 unfold maxLen at hqs
 obtain ⟨W, hW⟩ : ∃ W, (w.alloc (.cells #[.slice tq tn tc] 24)).alloc (.cells #[.int .i64 5, .int .i64 kt, .int .u16 ki, .int .i64 tt, .int .u16 ti, .int .i64 qv, .string qs, .int .i64 qn] 30) = W := ⟨_, rfl⟩
 have hbx := Lib.hid (two_rowsI (xs := [.slice tq tn tc]) (ys := [.int .i64 5, .int .i64 kt, .int .u16 ki, .int .i64 tt, .int .u16 ti, .int .i64 qv, .string qs, .int .i64 qn]) hW)
 have y0 : W.cell? ⟨w.heap.size + 1, 0, none⟩ = some (.int .i64 5) := hbx.out.2.2.1.cell 0
 have hWs : W.heap.size = w.heap.size + 2 := hbx.out.2.2.2
 obtain ⟨V, hV⟩ : ∃ V, W.alloc (.cells #[.int .i64 0, .int .i64 0, .int .u16 0, .int .i64 0, .int .u16 0, .int .i64 0, .string ⟨#[]⟩, .int .i64 0] 30) = V := ⟨_, rfl⟩
 have hbv := Lib.hid (one_rowI (xs := [.int .i64 0, .int .i64 0, .int .u16 0, .int .i64 0, .int .u16 0, .int .i64 0, .string ⟨#[]⟩, .int .i64 0]) hV)
 rw [hWs] at hbv
 have bV := Lib.hid (hbx.out.1.trans ((show Below W.heap.size W V by rw [hWs]; exact hbv.out.1).mono hbx.out.1.size))
 have sV := Lib.hid (hbx.out.2.1.below (show Below W.heap.size W V by rw [hWs]; exact hbv.out.1))
 have qV := Lib.hid (hbx.out.2.2.1.below (show Below W.heap.size W V by rw [hWs]; exact hbv.out.1))
 have zV := Lib.hid hbv.out.2.1
 have hsz : Hid (w.heap.size + 3 ≤ V.heap.size) := by have h1 := hbv.out.2.2; show _ ≤ _; omega
 have y0_ : V.cell? ⟨w.heap.size + 1, 0, none⟩ = some (.int .i64 5) := qV.out.cell 0
 have x0 : V.cell? ⟨w.heap.size + 2, 0, none⟩ = some (.int .i64 0) := zV.out.cell 0
 have f0 := zV.out.free 0
 have y1_ : V.cell? ⟨w.heap.size + 1, 1, none⟩ = some (.int .i64 kt) := qV.out.cell 1
 have x1 : V.cell? ⟨w.heap.size + 2, 1, none⟩ = some (.int .i64 0) := zV.out.cell 1
 have f1 := zV.out.free 1
 have y2_ : V.cell? ⟨w.heap.size + 1, 2, none⟩ = some (.int .u16 ki) := qV.out.cell 2
 have x2 : V.cell? ⟨w.heap.size + 2, 2, none⟩ = some (.int .u16 0) := zV.out.cell 2
 have f2 := zV.out.free 2
 have y3_ : V.cell? ⟨w.heap.size + 1, 3, none⟩ = some (.int .i64 tt) := qV.out.cell 3
 have x3 : V.cell? ⟨w.heap.size + 2, 3, none⟩ = some (.int .i64 0) := zV.out.cell 3
 have f3 := zV.out.free 3
 have y4_ : V.cell? ⟨w.heap.size + 1, 4, none⟩ = some (.int .u16 ti) := qV.out.cell 4
 have x4 : V.cell? ⟨w.heap.size + 2, 4, none⟩ = some (.int .u16 0) := zV.out.cell 4
 have f4 := zV.out.free 4
 have y5_ : V.cell? ⟨w.heap.size + 1, 5, none⟩ = some (.int .i64 qv) := qV.out.cell 5
 have x5 : V.cell? ⟨w.heap.size + 2, 5, none⟩ = some (.int .i64 0) := zV.out.cell 5
 have f5 := zV.out.free 5
 have y6_ : V.cell? ⟨w.heap.size + 1, 6, none⟩ = some (.string qs) := qV.out.cell 6
 have x6 : V.cell? ⟨w.heap.size + 2, 6, none⟩ = some (.string ⟨#[]⟩) := zV.out.cell 6
 have f6 := zV.out.free 6
 have y7_ : V.cell? ⟨w.heap.size + 1, 7, none⟩ = some (.int .i64 qn) := qV.out.cell 7
 have x7 : V.cell? ⟨w.heap.size + 2, 7, none⟩ = some (.int .i64 0) := zV.out.cell 7
 have f7 := zV.out.free 7
 obtain ⟨Z, hZ⟩ : ∃ Z, (((((((((((V.setCell ⟨w.heap.size + 2, 0, none⟩ (.int .i64 5)).setCell ⟨w.heap.size + 2, 1, none⟩ (.int .i64 0)).setCell ⟨w.heap.size + 2, 2, none⟩ (.int .u16 0)).setCell ⟨w.heap.size + 2, 3, none⟩ (.int .i64 0)).setCell ⟨w.heap.size + 2, 4, none⟩ (.int .u16 0)).setCell ⟨w.heap.size + 2, 5, none⟩ (.int .i64 0)).setCell ⟨w.heap.size + 2, 6, none⟩ (.string ⟨#[]⟩)).setCell ⟨w.heap.size + 2, 7, none⟩ (.int .i64 0)).setCell ⟨w.heap.size + 2, 1, none⟩ (.int .i64 kt)).setCell ⟨w.heap.size + 2, 2, none⟩ (.int .u16 ki)).setCell ⟨w.heap.size + 2, 6, none⟩ (.string qs)) = Z := ⟨_, rfl⟩
 have zZ : Hid (RowV 30 Z (w.heap.size + 2) [.int .i64 5, .int .i64 kt, .int .u16 ki, .int .i64 0, .int .u16 0, .int .i64 0, .string qs, .int .i64 0]) := by
  show RowV _ _ _ _
  rw [← hZ]
  exact (((((((((((zV.out.set 0 (.int .i64 5)).set 1 (.int .i64 0)).set 2 (.int .u16 0)).set 3 (.int .i64 0)).set 4 (.int .u16 0)).set 5 (.int .i64 0)).set 6 (.string ⟨#[]⟩)).set 7 (.int .i64 0)).set 1 (.int .i64 kt)).set 2 (.int .u16 ki)).set 6 (.string qs))
 have qZ : Hid (RowV 30 Z (w.heap.size + 1) [.int .i64 5, .int .i64 kt, .int .u16 ki, .int .i64 tt, .int .u16 ti, .int .i64 qv, .string qs, .int .i64 qn]) := by
  show RowV _ _ _ _
  rw [← hZ]
  exact (((((((((((qV.out.kept (setCell_grown _ _ _ _) (by omega)).kept (setCell_grown _ _ _ _) (by omega)).kept (setCell_grown _ _ _ _) (by omega)).kept (setCell_grown _ _ _ _) (by omega)).kept (setCell_grown _ _ _ _) (by omega)).kept (setCell_grown _ _ _ _) (by omega)).kept (setCell_grown _ _ _ _) (by omega)).kept (setCell_grown _ _ _ _) (by omega)).kept (setCell_grown _ _ _ _) (by omega)).kept (setCell_grown _ _ _ _) (by omega)).kept (setCell_grown _ _ _ _) (by omega))
 have sZ : Hid (RowV 24 Z w.heap.size [.slice tq tn tc]) := by
  show RowV _ _ _ _
  rw [← hZ]
  exact (((((((((((sV.out.kept (setCell_grown _ _ _ _) (by omega)).kept (setCell_grown _ _ _ _) (by omega)).kept (setCell_grown _ _ _ _) (by omega)).kept (setCell_grown _ _ _ _) (by omega)).kept (setCell_grown _ _ _ _) (by omega)).kept (setCell_grown _ _ _ _) (by omega)).kept (setCell_grown _ _ _ _) (by omega)).kept (setCell_grown _ _ _ _) (by omega)).kept (setCell_grown _ _ _ _) (by omega)).kept (setCell_grown _ _ _ _) (by omega)).kept (setCell_grown _ _ _ _) (by omega))
 have bZ : Hid (Below w.heap.size w Z) := by
  show Below _ _ _
  rw [← hZ]
  exact (bset (bset (bset (bset (bset (bset (bset (bset (bset (bset (bset ⟨bV.out, by have := hsz.out; omega⟩ (Nat.le_add_right _ _)) (Nat.le_add_right _ _)) (Nat.le_add_right _ _)) (Nat.le_add_right _ _)) (Nat.le_add_right _ _)) (Nat.le_add_right _ _)) (Nat.le_add_right _ _)) (Nat.le_add_right _ _)) (Nat.le_add_right _ _)) (Nat.le_add_right _ _)) (Nat.le_add_right _ _)).1
 have hl' := Lib.hid hl
 clear h hl zV qV sV bV hsz hbx hbv
 have s0 : Z.cell? ⟨w.heap.size, 0, none⟩ = some (.slice tq tn tc) := sZ.out.cell 0
 have a0 : Z.cell? ⟨w.heap.size + 1, 0, none⟩ = some (.int .i64 5) := qZ.out.cell 0
 have c0 : Z.cell? ⟨w.heap.size + 2, 0, none⟩ = some (.int .i64 5) := zZ.out.cell 0
 have a1 : Z.cell? ⟨w.heap.size + 1, 1, none⟩ = some (.int .i64 kt) := qZ.out.cell 1
 have c1 : Z.cell? ⟨w.heap.size + 2, 1, none⟩ = some (.int .i64 kt) := zZ.out.cell 1
 have a2 : Z.cell? ⟨w.heap.size + 1, 2, none⟩ = some (.int .u16 ki) := qZ.out.cell 2
 have c2 : Z.cell? ⟨w.heap.size + 2, 2, none⟩ = some (.int .u16 ki) := zZ.out.cell 2
 have a3 : Z.cell? ⟨w.heap.size + 1, 3, none⟩ = some (.int .i64 tt) := qZ.out.cell 3
 have c3 : Z.cell? ⟨w.heap.size + 2, 3, none⟩ = some (.int .i64 0) := zZ.out.cell 3
 have a4 : Z.cell? ⟨w.heap.size + 1, 4, none⟩ = some (.int .u16 ti) := qZ.out.cell 4
 have c4 : Z.cell? ⟨w.heap.size + 2, 4, none⟩ = some (.int .u16 0) := zZ.out.cell 4
 have a5 : Z.cell? ⟨w.heap.size + 1, 5, none⟩ = some (.int .i64 qv) := qZ.out.cell 5
 have c5 : Z.cell? ⟨w.heap.size + 2, 5, none⟩ = some (.int .i64 0) := zZ.out.cell 5
 have a6 : Z.cell? ⟨w.heap.size + 1, 6, none⟩ = some (.string qs) := qZ.out.cell 6
 have c6 : Z.cell? ⟨w.heap.size + 2, 6, none⟩ = some (.string qs) := zZ.out.cell 6
 have a7 : Z.cell? ⟨w.heap.size + 1, 7, none⟩ = some (.int .i64 qn) := qZ.out.cell 7
 have c7 : Z.cell? ⟨w.heap.size + 2, 7, none⟩ = some (.int .i64 0) := zZ.out.cell 7
 have heq := fun u => eq_req u 5 kt ki tt ti qv qs qn 5 kt ki 0 0 0 qs 0
 obtain ⟨EQ, hEQ⟩ : ∃ b, zReq (othR ⟨5, ⟨kt, ki⟩, ⟨tt, ti⟩, qv, qs, qn⟩) = b := ⟨_, rfl⟩
 rw [want_5, hEQ] at heq
 have hrq : reqB bs ⟨5, ⟨kt, ki⟩, ⟨tt, ti⟩, qv, qs, qn⟩ = (EQ && cntB bs ⟨5, ⟨kt, ki⟩, ⟨tt, ti⟩, qv, qs, qn⟩) := by unfold reqB; rw [hEQ]
 have hno : Hid (EQ = true → True) := fun e => trivial
 have hcn : cntB bs ⟨5, ⟨kt, ki⟩, ⟨tt, ti⟩, qv, qs, qn⟩ = (keyB bs ⟨kt, ki⟩ && decide (qs.size ≤ 8)) := rfl
 rw [hrq, hcn, key_bool hS]
 clear hrq hEQ hcn hS
 cases EQ with
 | false =>
   go_enter Try.func15, Try.ntmps15
   go_wp2
   go_ret
   exact ⟨rfl, bZ.out⟩
 | true =>
   clear hno
   obtain ⟨ke, hke⟩ : ∃ x, keyE bs ⟨kt, ki⟩ = x := ⟨_, rfl⟩
   have hkc := keyError_any tq tn tc bs kt ki Z hl'.out
   rw [hke] at hkc ⊢
   have hkc := Lib.hid hkc
   clear hke
   by_cases h0 : ke = 0
   · subst h0
     by_cases h8 : qs.size ≤ 8
     · rw [decide_eq_true h8]
       go_enter Try.func15, Try.ntmps15
       go_wp2_with fail
       try clear y0 y0_ x0 f0 a0 c0 y1_ x1 f1 a1 c1 y2_ x2 f2 a2 c2 y3_ x3 f3 a3 c3 y4_ x4 f4 a4 c4 y5_ x5 f5 a5 c5 y6_ x6 f6 a6 c6 y7_ x7 f7 a7 c7 s0 hV hW hZ
       clear heq
       refine hkc.out.mono ?_
       rintro e u1 ⟨rfl, hb⟩
       have b1 := Lib.hid (bZ.out.trans (hb.mono bZ.out.size))
       have y6 : u1.cell? ⟨w.heap.size + 1, 6, none⟩ = some (.string qs) := (qZ.out.below hb).cell 6
       clear hb hkc
       have n8 : ((qs.size : Int) ≤ 8) := by omega
       clear h8
       go_wp2
       go_ret
       exact ⟨rfl, b1.out⟩
     · rw [decide_eq_false h8]
       go_enter Try.func15, Try.ntmps15
       go_wp2_with fail
       try clear y0 y0_ x0 f0 a0 c0 y1_ x1 f1 a1 c1 y2_ x2 f2 a2 c2 y3_ x3 f3 a3 c3 y4_ x4 f4 a4 c4 y5_ x5 f5 a5 c5 y6_ x6 f6 a6 c6 y7_ x7 f7 a7 c7 s0 hV hW hZ
       clear heq
       refine hkc.out.mono ?_
       rintro e u1 ⟨rfl, hb⟩
       have b1 := Lib.hid (bZ.out.trans (hb.mono bZ.out.size))
       have y6 : u1.cell? ⟨w.heap.size + 1, 6, none⟩ = some (.string qs) := (qZ.out.below hb).cell 6
       clear hb hkc
       have n8 : decide ((qs.size : Int) ≤ 8) = false := decide_eq_false (by omega)
       clear h8
       go_wp2
       go_ret
       exact ⟨rfl, b1.out⟩
   · have d0 : (ke == 0) = false := by simpa using h0
     rw [d0]
     clear h0
     go_enter Try.func15, Try.ntmps15
     go_wp2_with fail
     try clear y0 y0_ x0 f0 a0 c0 y1_ x1 f1 a1 c1 y2_ x2 f2 a2 c2 y3_ x3 f3 a3 c3 y4_ x4 f4 a4 c4 y5_ x5 f5 a5 c5 y6_ x6 f6 a6 c6 y7_ x7 f7 a7 c7 s0 hV hW hZ
     clear heq
     refine hkc.out.mono ?_
     rintro e u1 ⟨rfl, hb⟩
     have b1 := Lib.hid (bZ.out.trans (hb.mono bZ.out.size))
     have y6 : u1.cell? ⟨w.heap.size + 1, 6, none⟩ = some (.string qs) := (qZ.out.below hb).cell 6
     clear hb hkc
     go_wp2
     go_ret
     exact ⟨rfl, b1.out⟩
set_option maxHeartbeats 4000000 in
theorem rrq_6 (kt ki tt ti qv : Int) (qs : ByteArray) (qn : Int) (tq : Option Addr) (tn tc : Nat) (bs : List BdD) (w : World) (h : SchOn w tq tn tc bs) (hS : okS bs = true) :
 Calls Try.prog 15 #[.agg #[.slice tq tn tc], .agg #[.int .i64 6, .int .i64 kt, .int .u16 ki, .int .i64 tt, .int .u16 ti, .int .i64 qv, .string qs, .int .i64 qn]] w (RqPost (reqB bs ⟨6, ⟨kt, ki⟩, ⟨tt, ti⟩, qv, qs, qn⟩) w) := by
 have hl := h.len
 obtain ⟨W, hW⟩ : ∃ W, (w.alloc (.cells #[.slice tq tn tc] 24)).alloc (.cells #[.int .i64 6, .int .i64 kt, .int .u16 ki, .int .i64 tt, .int .u16 ti, .int .i64 qv, .string qs, .int .i64 qn] 30) = W := ⟨_, rfl⟩
 have hbx := Lib.hid (two_rowsI (xs := [.slice tq tn tc]) (ys := [.int .i64 6, .int .i64 kt, .int .u16 ki, .int .i64 tt, .int .u16 ti, .int .i64 qv, .string qs, .int .i64 qn]) hW)
 have y0 : W.cell? ⟨w.heap.size + 1, 0, none⟩ = some (.int .i64 6) := hbx.out.2.2.1.cell 0
 have hWs : W.heap.size = w.heap.size + 2 := hbx.out.2.2.2
 obtain ⟨V, hV⟩ : ∃ V, W.alloc (.cells #[.int .i64 0, .int .i64 0, .int .u16 0, .int .i64 0, .int .u16 0, .int .i64 0, .string ⟨#[]⟩, .int .i64 0] 30) = V := ⟨_, rfl⟩
 have hbv := Lib.hid (one_rowI (xs := [.int .i64 0, .int .i64 0, .int .u16 0, .int .i64 0, .int .u16 0, .int .i64 0, .string ⟨#[]⟩, .int .i64 0]) hV)
 rw [hWs] at hbv
 have bV := Lib.hid (hbx.out.1.trans ((show Below W.heap.size W V by rw [hWs]; exact hbv.out.1).mono hbx.out.1.size))
 have sV := Lib.hid (hbx.out.2.1.below (show Below W.heap.size W V by rw [hWs]; exact hbv.out.1))
 have qV := Lib.hid (hbx.out.2.2.1.below (show Below W.heap.size W V by rw [hWs]; exact hbv.out.1))
 have zV := Lib.hid hbv.out.2.1
 have hsz : Hid (w.heap.size + 3 ≤ V.heap.size) := by have h1 := hbv.out.2.2; show _ ≤ _; omega
 have y0_ : V.cell? ⟨w.heap.size + 1, 0, none⟩ = some (.int .i64 6) := qV.out.cell 0
 have x0 : V.cell? ⟨w.heap.size + 2, 0, none⟩ = some (.int .i64 0) := zV.out.cell 0
 have f0 := zV.out.free 0
 have y1_ : V.cell? ⟨w.heap.size + 1, 1, none⟩ = some (.int .i64 kt) := qV.out.cell 1
 have x1 : V.cell? ⟨w.heap.size + 2, 1, none⟩ = some (.int .i64 0) := zV.out.cell 1
 have f1 := zV.out.free 1
 have y2_ : V.cell? ⟨w.heap.size + 1, 2, none⟩ = some (.int .u16 ki) := qV.out.cell 2
 have x2 : V.cell? ⟨w.heap.size + 2, 2, none⟩ = some (.int .u16 0) := zV.out.cell 2
 have f2 := zV.out.free 2
 have y3_ : V.cell? ⟨w.heap.size + 1, 3, none⟩ = some (.int .i64 tt) := qV.out.cell 3
 have x3 : V.cell? ⟨w.heap.size + 2, 3, none⟩ = some (.int .i64 0) := zV.out.cell 3
 have f3 := zV.out.free 3
 have y4_ : V.cell? ⟨w.heap.size + 1, 4, none⟩ = some (.int .u16 ti) := qV.out.cell 4
 have x4 : V.cell? ⟨w.heap.size + 2, 4, none⟩ = some (.int .u16 0) := zV.out.cell 4
 have f4 := zV.out.free 4
 have y5_ : V.cell? ⟨w.heap.size + 1, 5, none⟩ = some (.int .i64 qv) := qV.out.cell 5
 have x5 : V.cell? ⟨w.heap.size + 2, 5, none⟩ = some (.int .i64 0) := zV.out.cell 5
 have f5 := zV.out.free 5
 have y6_ : V.cell? ⟨w.heap.size + 1, 6, none⟩ = some (.string qs) := qV.out.cell 6
 have x6 : V.cell? ⟨w.heap.size + 2, 6, none⟩ = some (.string ⟨#[]⟩) := zV.out.cell 6
 have f6 := zV.out.free 6
 have y7_ : V.cell? ⟨w.heap.size + 1, 7, none⟩ = some (.int .i64 qn) := qV.out.cell 7
 have x7 : V.cell? ⟨w.heap.size + 2, 7, none⟩ = some (.int .i64 0) := zV.out.cell 7
 have f7 := zV.out.free 7
 obtain ⟨Z, hZ⟩ : ∃ Z, (((((((((((V.setCell ⟨w.heap.size + 2, 0, none⟩ (.int .i64 6)).setCell ⟨w.heap.size + 2, 1, none⟩ (.int .i64 0)).setCell ⟨w.heap.size + 2, 2, none⟩ (.int .u16 0)).setCell ⟨w.heap.size + 2, 3, none⟩ (.int .i64 0)).setCell ⟨w.heap.size + 2, 4, none⟩ (.int .u16 0)).setCell ⟨w.heap.size + 2, 5, none⟩ (.int .i64 0)).setCell ⟨w.heap.size + 2, 6, none⟩ (.string ⟨#[]⟩)).setCell ⟨w.heap.size + 2, 7, none⟩ (.int .i64 0)).setCell ⟨w.heap.size + 2, 1, none⟩ (.int .i64 kt)).setCell ⟨w.heap.size + 2, 2, none⟩ (.int .u16 ki)).setCell ⟨w.heap.size + 2, 5, none⟩ (.int .i64 qv)) = Z := ⟨_, rfl⟩
 have zZ : Hid (RowV 30 Z (w.heap.size + 2) [.int .i64 6, .int .i64 kt, .int .u16 ki, .int .i64 0, .int .u16 0, .int .i64 qv, .string ⟨#[]⟩, .int .i64 0]) := by
  show RowV _ _ _ _
  rw [← hZ]
  exact (((((((((((zV.out.set 0 (.int .i64 6)).set 1 (.int .i64 0)).set 2 (.int .u16 0)).set 3 (.int .i64 0)).set 4 (.int .u16 0)).set 5 (.int .i64 0)).set 6 (.string ⟨#[]⟩)).set 7 (.int .i64 0)).set 1 (.int .i64 kt)).set 2 (.int .u16 ki)).set 5 (.int .i64 qv))
 have qZ : Hid (RowV 30 Z (w.heap.size + 1) [.int .i64 6, .int .i64 kt, .int .u16 ki, .int .i64 tt, .int .u16 ti, .int .i64 qv, .string qs, .int .i64 qn]) := by
  show RowV _ _ _ _
  rw [← hZ]
  exact (((((((((((qV.out.kept (setCell_grown _ _ _ _) (by omega)).kept (setCell_grown _ _ _ _) (by omega)).kept (setCell_grown _ _ _ _) (by omega)).kept (setCell_grown _ _ _ _) (by omega)).kept (setCell_grown _ _ _ _) (by omega)).kept (setCell_grown _ _ _ _) (by omega)).kept (setCell_grown _ _ _ _) (by omega)).kept (setCell_grown _ _ _ _) (by omega)).kept (setCell_grown _ _ _ _) (by omega)).kept (setCell_grown _ _ _ _) (by omega)).kept (setCell_grown _ _ _ _) (by omega))
 have sZ : Hid (RowV 24 Z w.heap.size [.slice tq tn tc]) := by
  show RowV _ _ _ _
  rw [← hZ]
  exact (((((((((((sV.out.kept (setCell_grown _ _ _ _) (by omega)).kept (setCell_grown _ _ _ _) (by omega)).kept (setCell_grown _ _ _ _) (by omega)).kept (setCell_grown _ _ _ _) (by omega)).kept (setCell_grown _ _ _ _) (by omega)).kept (setCell_grown _ _ _ _) (by omega)).kept (setCell_grown _ _ _ _) (by omega)).kept (setCell_grown _ _ _ _) (by omega)).kept (setCell_grown _ _ _ _) (by omega)).kept (setCell_grown _ _ _ _) (by omega)).kept (setCell_grown _ _ _ _) (by omega))
 have bZ : Hid (Below w.heap.size w Z) := by
  show Below _ _ _
  rw [← hZ]
  exact (bset (bset (bset (bset (bset (bset (bset (bset (bset (bset (bset ⟨bV.out, by have := hsz.out; omega⟩ (Nat.le_add_right _ _)) (Nat.le_add_right _ _)) (Nat.le_add_right _ _)) (Nat.le_add_right _ _)) (Nat.le_add_right _ _)) (Nat.le_add_right _ _)) (Nat.le_add_right _ _)) (Nat.le_add_right _ _)) (Nat.le_add_right _ _)) (Nat.le_add_right _ _)) (Nat.le_add_right _ _)).1
 have hl' := Lib.hid hl
 clear h hl zV qV sV bV hsz hbx hbv
 have s0 : Z.cell? ⟨w.heap.size, 0, none⟩ = some (.slice tq tn tc) := sZ.out.cell 0
 have a0 : Z.cell? ⟨w.heap.size + 1, 0, none⟩ = some (.int .i64 6) := qZ.out.cell 0
 have c0 : Z.cell? ⟨w.heap.size + 2, 0, none⟩ = some (.int .i64 6) := zZ.out.cell 0
 have a1 : Z.cell? ⟨w.heap.size + 1, 1, none⟩ = some (.int .i64 kt) := qZ.out.cell 1
 have c1 : Z.cell? ⟨w.heap.size + 2, 1, none⟩ = some (.int .i64 kt) := zZ.out.cell 1
 have a2 : Z.cell? ⟨w.heap.size + 1, 2, none⟩ = some (.int .u16 ki) := qZ.out.cell 2
 have c2 : Z.cell? ⟨w.heap.size + 2, 2, none⟩ = some (.int .u16 ki) := zZ.out.cell 2
 have a3 : Z.cell? ⟨w.heap.size + 1, 3, none⟩ = some (.int .i64 tt) := qZ.out.cell 3
 have c3 : Z.cell? ⟨w.heap.size + 2, 3, none⟩ = some (.int .i64 0) := zZ.out.cell 3
 have a4 : Z.cell? ⟨w.heap.size + 1, 4, none⟩ = some (.int .u16 ti) := qZ.out.cell 4
 have c4 : Z.cell? ⟨w.heap.size + 2, 4, none⟩ = some (.int .u16 0) := zZ.out.cell 4
 have a5 : Z.cell? ⟨w.heap.size + 1, 5, none⟩ = some (.int .i64 qv) := qZ.out.cell 5
 have c5 : Z.cell? ⟨w.heap.size + 2, 5, none⟩ = some (.int .i64 qv) := zZ.out.cell 5
 have a6 : Z.cell? ⟨w.heap.size + 1, 6, none⟩ = some (.string qs) := qZ.out.cell 6
 have c6 : Z.cell? ⟨w.heap.size + 2, 6, none⟩ = some (.string ⟨#[]⟩) := zZ.out.cell 6
 have a7 : Z.cell? ⟨w.heap.size + 1, 7, none⟩ = some (.int .i64 qn) := qZ.out.cell 7
 have c7 : Z.cell? ⟨w.heap.size + 2, 7, none⟩ = some (.int .i64 0) := zZ.out.cell 7
 have heq := fun u => eq_req u 6 kt ki tt ti qv qs qn 6 kt ki 0 0 qv ⟨#[]⟩ 0
 obtain ⟨EQ, hEQ⟩ : ∃ b, zReq (othR ⟨6, ⟨kt, ki⟩, ⟨tt, ti⟩, qv, qs, qn⟩) = b := ⟨_, rfl⟩
 rw [want_6, hEQ] at heq
 have hrq : reqB bs ⟨6, ⟨kt, ki⟩, ⟨tt, ti⟩, qv, qs, qn⟩ = (EQ && cntB bs ⟨6, ⟨kt, ki⟩, ⟨tt, ti⟩, qv, qs, qn⟩) := by unfold reqB; rw [hEQ]
 have hno : Hid (EQ = true → qs.size = 0) := fun e => zReq_note (hEQ.trans e)
 have hcn : cntB bs ⟨6, ⟨kt, ki⟩, ⟨tt, ti⟩, qv, qs, qn⟩ = keyB bs ⟨kt, ki⟩ := rfl
 rw [hrq, hcn, key_bool hS]
 clear hrq hEQ hcn hS
 cases EQ with
 | false =>
   go_enter Try.func15, Try.ntmps15
   go_wp2
   go_ret
   exact ⟨rfl, bZ.out⟩
 | true =>
   have hs0 := Lib.hid (hno.out rfl)
   clear hno
   obtain ⟨ke, hke⟩ : ∃ x, keyE bs ⟨kt, ki⟩ = x := ⟨_, rfl⟩
   have hkc := keyError_any tq tn tc bs kt ki Z hl'.out
   rw [hke] at hkc ⊢
   have hkc := Lib.hid hkc
   clear hke
   by_cases h0 : ke = 0
   · subst h0
     go_enter Try.func15, Try.ntmps15
     go_wp2_with fail
     try clear y0 y0_ x0 f0 a0 c0 y1_ x1 f1 a1 c1 y2_ x2 f2 a2 c2 y3_ x3 f3 a3 c3 y4_ x4 f4 a4 c4 y5_ x5 f5 a5 c5 y6_ x6 f6 a6 c6 y7_ x7 f7 a7 c7 s0 hV hW hZ
     clear heq
     refine hkc.out.mono ?_
     rintro e u1 ⟨rfl, hb⟩
     have b1 := Lib.hid (bZ.out.trans (hb.mono bZ.out.size))
     have y6 : u1.cell? ⟨w.heap.size + 1, 6, none⟩ = some (.string qs) := (qZ.out.below hb).cell 6
     clear hb hkc
     have n8 : ((qs.size : Int) ≤ 8) := by have := hs0.out; omega
     go_wp2
     go_ret
     exact ⟨rfl, b1.out⟩
   · have d0 : (ke == 0) = false := by simpa using h0
     rw [d0]
     clear h0
     go_enter Try.func15, Try.ntmps15
     go_wp2_with fail
     try clear y0 y0_ x0 f0 a0 c0 y1_ x1 f1 a1 c1 y2_ x2 f2 a2 c2 y3_ x3 f3 a3 c3 y4_ x4 f4 a4 c4 y5_ x5 f5 a5 c5 y6_ x6 f6 a6 c6 y7_ x7 f7 a7 c7 s0 hV hW hZ
     clear heq
     refine hkc.out.mono ?_
     rintro e u1 ⟨rfl, hb⟩
     have b1 := Lib.hid (bZ.out.trans (hb.mono bZ.out.size))
     have y6 : u1.cell? ⟨w.heap.size + 1, 6, none⟩ = some (.string qs) := (qZ.out.below hb).cell 6
     clear hb hkc
     go_wp2
     go_ret
     exact ⟨rfl, b1.out⟩
set_option maxHeartbeats 4000000 in
theorem rrq_7 (kt ki tt ti qv : Int) (qs : ByteArray) (qn : Int) (tq : Option Addr) (tn tc : Nat) (bs : List BdD) (w : World) (h : SchOn w tq tn tc bs) (hS : okS bs = true) :
 Calls Try.prog 15 #[.agg #[.slice tq tn tc], .agg #[.int .i64 7, .int .i64 kt, .int .u16 ki, .int .i64 tt, .int .u16 ti, .int .i64 qv, .string qs, .int .i64 qn]] w (RqPost (reqB bs ⟨7, ⟨kt, ki⟩, ⟨tt, ti⟩, qv, qs, qn⟩) w) := by
 have hl := h.len
 obtain ⟨W, hW⟩ : ∃ W, (w.alloc (.cells #[.slice tq tn tc] 24)).alloc (.cells #[.int .i64 7, .int .i64 kt, .int .u16 ki, .int .i64 tt, .int .u16 ti, .int .i64 qv, .string qs, .int .i64 qn] 30) = W := ⟨_, rfl⟩
 have hbx := Lib.hid (two_rowsI (xs := [.slice tq tn tc]) (ys := [.int .i64 7, .int .i64 kt, .int .u16 ki, .int .i64 tt, .int .u16 ti, .int .i64 qv, .string qs, .int .i64 qn]) hW)
 have y0 : W.cell? ⟨w.heap.size + 1, 0, none⟩ = some (.int .i64 7) := hbx.out.2.2.1.cell 0
 have hWs : W.heap.size = w.heap.size + 2 := hbx.out.2.2.2
 obtain ⟨V, hV⟩ : ∃ V, W.alloc (.cells #[.int .i64 0, .int .i64 0, .int .u16 0, .int .i64 0, .int .u16 0, .int .i64 0, .string ⟨#[]⟩, .int .i64 0] 30) = V := ⟨_, rfl⟩
 have hbv := Lib.hid (one_rowI (xs := [.int .i64 0, .int .i64 0, .int .u16 0, .int .i64 0, .int .u16 0, .int .i64 0, .string ⟨#[]⟩, .int .i64 0]) hV)
 rw [hWs] at hbv
 have bV := Lib.hid (hbx.out.1.trans ((show Below W.heap.size W V by rw [hWs]; exact hbv.out.1).mono hbx.out.1.size))
 have sV := Lib.hid (hbx.out.2.1.below (show Below W.heap.size W V by rw [hWs]; exact hbv.out.1))
 have qV := Lib.hid (hbx.out.2.2.1.below (show Below W.heap.size W V by rw [hWs]; exact hbv.out.1))
 have zV := Lib.hid hbv.out.2.1
 have hsz : Hid (w.heap.size + 3 ≤ V.heap.size) := by have h1 := hbv.out.2.2; show _ ≤ _; omega
 have y0_ : V.cell? ⟨w.heap.size + 1, 0, none⟩ = some (.int .i64 7) := qV.out.cell 0
 have x0 : V.cell? ⟨w.heap.size + 2, 0, none⟩ = some (.int .i64 0) := zV.out.cell 0
 have f0 := zV.out.free 0
 have y1_ : V.cell? ⟨w.heap.size + 1, 1, none⟩ = some (.int .i64 kt) := qV.out.cell 1
 have x1 : V.cell? ⟨w.heap.size + 2, 1, none⟩ = some (.int .i64 0) := zV.out.cell 1
 have f1 := zV.out.free 1
 have y2_ : V.cell? ⟨w.heap.size + 1, 2, none⟩ = some (.int .u16 ki) := qV.out.cell 2
 have x2 : V.cell? ⟨w.heap.size + 2, 2, none⟩ = some (.int .u16 0) := zV.out.cell 2
 have f2 := zV.out.free 2
 have y3_ : V.cell? ⟨w.heap.size + 1, 3, none⟩ = some (.int .i64 tt) := qV.out.cell 3
 have x3 : V.cell? ⟨w.heap.size + 2, 3, none⟩ = some (.int .i64 0) := zV.out.cell 3
 have f3 := zV.out.free 3
 have y4_ : V.cell? ⟨w.heap.size + 1, 4, none⟩ = some (.int .u16 ti) := qV.out.cell 4
 have x4 : V.cell? ⟨w.heap.size + 2, 4, none⟩ = some (.int .u16 0) := zV.out.cell 4
 have f4 := zV.out.free 4
 have y5_ : V.cell? ⟨w.heap.size + 1, 5, none⟩ = some (.int .i64 qv) := qV.out.cell 5
 have x5 : V.cell? ⟨w.heap.size + 2, 5, none⟩ = some (.int .i64 0) := zV.out.cell 5
 have f5 := zV.out.free 5
 have y6_ : V.cell? ⟨w.heap.size + 1, 6, none⟩ = some (.string qs) := qV.out.cell 6
 have x6 : V.cell? ⟨w.heap.size + 2, 6, none⟩ = some (.string ⟨#[]⟩) := zV.out.cell 6
 have f6 := zV.out.free 6
 have y7_ : V.cell? ⟨w.heap.size + 1, 7, none⟩ = some (.int .i64 qn) := qV.out.cell 7
 have x7 : V.cell? ⟨w.heap.size + 2, 7, none⟩ = some (.int .i64 0) := zV.out.cell 7
 have f7 := zV.out.free 7
 obtain ⟨Z, hZ⟩ : ∃ Z, (((((((((((V.setCell ⟨w.heap.size + 2, 0, none⟩ (.int .i64 7)).setCell ⟨w.heap.size + 2, 1, none⟩ (.int .i64 0)).setCell ⟨w.heap.size + 2, 2, none⟩ (.int .u16 0)).setCell ⟨w.heap.size + 2, 3, none⟩ (.int .i64 0)).setCell ⟨w.heap.size + 2, 4, none⟩ (.int .u16 0)).setCell ⟨w.heap.size + 2, 5, none⟩ (.int .i64 0)).setCell ⟨w.heap.size + 2, 6, none⟩ (.string ⟨#[]⟩)).setCell ⟨w.heap.size + 2, 7, none⟩ (.int .i64 0)).setCell ⟨w.heap.size + 2, 1, none⟩ (.int .i64 kt)).setCell ⟨w.heap.size + 2, 2, none⟩ (.int .u16 ki)).setCell ⟨w.heap.size + 2, 5, none⟩ (.int .i64 qv)) = Z := ⟨_, rfl⟩
 have zZ : Hid (RowV 30 Z (w.heap.size + 2) [.int .i64 7, .int .i64 kt, .int .u16 ki, .int .i64 0, .int .u16 0, .int .i64 qv, .string ⟨#[]⟩, .int .i64 0]) := by
  show RowV _ _ _ _
  rw [← hZ]
  exact (((((((((((zV.out.set 0 (.int .i64 7)).set 1 (.int .i64 0)).set 2 (.int .u16 0)).set 3 (.int .i64 0)).set 4 (.int .u16 0)).set 5 (.int .i64 0)).set 6 (.string ⟨#[]⟩)).set 7 (.int .i64 0)).set 1 (.int .i64 kt)).set 2 (.int .u16 ki)).set 5 (.int .i64 qv))
 have qZ : Hid (RowV 30 Z (w.heap.size + 1) [.int .i64 7, .int .i64 kt, .int .u16 ki, .int .i64 tt, .int .u16 ti, .int .i64 qv, .string qs, .int .i64 qn]) := by
  show RowV _ _ _ _
  rw [← hZ]
  exact (((((((((((qV.out.kept (setCell_grown _ _ _ _) (by omega)).kept (setCell_grown _ _ _ _) (by omega)).kept (setCell_grown _ _ _ _) (by omega)).kept (setCell_grown _ _ _ _) (by omega)).kept (setCell_grown _ _ _ _) (by omega)).kept (setCell_grown _ _ _ _) (by omega)).kept (setCell_grown _ _ _ _) (by omega)).kept (setCell_grown _ _ _ _) (by omega)).kept (setCell_grown _ _ _ _) (by omega)).kept (setCell_grown _ _ _ _) (by omega)).kept (setCell_grown _ _ _ _) (by omega))
 have sZ : Hid (RowV 24 Z w.heap.size [.slice tq tn tc]) := by
  show RowV _ _ _ _
  rw [← hZ]
  exact (((((((((((sV.out.kept (setCell_grown _ _ _ _) (by omega)).kept (setCell_grown _ _ _ _) (by omega)).kept (setCell_grown _ _ _ _) (by omega)).kept (setCell_grown _ _ _ _) (by omega)).kept (setCell_grown _ _ _ _) (by omega)).kept (setCell_grown _ _ _ _) (by omega)).kept (setCell_grown _ _ _ _) (by omega)).kept (setCell_grown _ _ _ _) (by omega)).kept (setCell_grown _ _ _ _) (by omega)).kept (setCell_grown _ _ _ _) (by omega)).kept (setCell_grown _ _ _ _) (by omega))
 have bZ : Hid (Below w.heap.size w Z) := by
  show Below _ _ _
  rw [← hZ]
  exact (bset (bset (bset (bset (bset (bset (bset (bset (bset (bset (bset ⟨bV.out, by have := hsz.out; omega⟩ (Nat.le_add_right _ _)) (Nat.le_add_right _ _)) (Nat.le_add_right _ _)) (Nat.le_add_right _ _)) (Nat.le_add_right _ _)) (Nat.le_add_right _ _)) (Nat.le_add_right _ _)) (Nat.le_add_right _ _)) (Nat.le_add_right _ _)) (Nat.le_add_right _ _)) (Nat.le_add_right _ _)).1
 have hl' := Lib.hid hl
 clear h hl zV qV sV bV hsz hbx hbv
 have s0 : Z.cell? ⟨w.heap.size, 0, none⟩ = some (.slice tq tn tc) := sZ.out.cell 0
 have a0 : Z.cell? ⟨w.heap.size + 1, 0, none⟩ = some (.int .i64 7) := qZ.out.cell 0
 have c0 : Z.cell? ⟨w.heap.size + 2, 0, none⟩ = some (.int .i64 7) := zZ.out.cell 0
 have a1 : Z.cell? ⟨w.heap.size + 1, 1, none⟩ = some (.int .i64 kt) := qZ.out.cell 1
 have c1 : Z.cell? ⟨w.heap.size + 2, 1, none⟩ = some (.int .i64 kt) := zZ.out.cell 1
 have a2 : Z.cell? ⟨w.heap.size + 1, 2, none⟩ = some (.int .u16 ki) := qZ.out.cell 2
 have c2 : Z.cell? ⟨w.heap.size + 2, 2, none⟩ = some (.int .u16 ki) := zZ.out.cell 2
 have a3 : Z.cell? ⟨w.heap.size + 1, 3, none⟩ = some (.int .i64 tt) := qZ.out.cell 3
 have c3 : Z.cell? ⟨w.heap.size + 2, 3, none⟩ = some (.int .i64 0) := zZ.out.cell 3
 have a4 : Z.cell? ⟨w.heap.size + 1, 4, none⟩ = some (.int .u16 ti) := qZ.out.cell 4
 have c4 : Z.cell? ⟨w.heap.size + 2, 4, none⟩ = some (.int .u16 0) := zZ.out.cell 4
 have a5 : Z.cell? ⟨w.heap.size + 1, 5, none⟩ = some (.int .i64 qv) := qZ.out.cell 5
 have c5 : Z.cell? ⟨w.heap.size + 2, 5, none⟩ = some (.int .i64 qv) := zZ.out.cell 5
 have a6 : Z.cell? ⟨w.heap.size + 1, 6, none⟩ = some (.string qs) := qZ.out.cell 6
 have c6 : Z.cell? ⟨w.heap.size + 2, 6, none⟩ = some (.string ⟨#[]⟩) := zZ.out.cell 6
 have a7 : Z.cell? ⟨w.heap.size + 1, 7, none⟩ = some (.int .i64 qn) := qZ.out.cell 7
 have c7 : Z.cell? ⟨w.heap.size + 2, 7, none⟩ = some (.int .i64 0) := zZ.out.cell 7
 have heq := fun u => eq_req u 7 kt ki tt ti qv qs qn 7 kt ki 0 0 qv ⟨#[]⟩ 0
 obtain ⟨EQ, hEQ⟩ : ∃ b, zReq (othR ⟨7, ⟨kt, ki⟩, ⟨tt, ti⟩, qv, qs, qn⟩) = b := ⟨_, rfl⟩
 rw [want_7, hEQ] at heq
 have hrq : reqB bs ⟨7, ⟨kt, ki⟩, ⟨tt, ti⟩, qv, qs, qn⟩ = (EQ && cntB bs ⟨7, ⟨kt, ki⟩, ⟨tt, ti⟩, qv, qs, qn⟩) := by unfold reqB; rw [hEQ]
 have hno : Hid (EQ = true → qs.size = 0) := fun e => zReq_note (hEQ.trans e)
 have hcn : cntB bs ⟨7, ⟨kt, ki⟩, ⟨tt, ti⟩, qv, qs, qn⟩ = keyB bs ⟨kt, ki⟩ := rfl
 rw [hrq, hcn, key_bool hS]
 clear hrq hEQ hcn hS
 cases EQ with
 | false =>
   go_enter Try.func15, Try.ntmps15
   go_wp2
   go_ret
   exact ⟨rfl, bZ.out⟩
 | true =>
   have hs0 := Lib.hid (hno.out rfl)
   clear hno
   obtain ⟨ke, hke⟩ : ∃ x, keyE bs ⟨kt, ki⟩ = x := ⟨_, rfl⟩
   have hkc := keyError_any tq tn tc bs kt ki Z hl'.out
   rw [hke] at hkc ⊢
   have hkc := Lib.hid hkc
   clear hke
   by_cases h0 : ke = 0
   · subst h0
     go_enter Try.func15, Try.ntmps15
     go_wp2_with fail
     try clear y0 y0_ x0 f0 a0 c0 y1_ x1 f1 a1 c1 y2_ x2 f2 a2 c2 y3_ x3 f3 a3 c3 y4_ x4 f4 a4 c4 y5_ x5 f5 a5 c5 y6_ x6 f6 a6 c6 y7_ x7 f7 a7 c7 s0 hV hW hZ
     clear heq
     refine hkc.out.mono ?_
     rintro e u1 ⟨rfl, hb⟩
     have b1 := Lib.hid (bZ.out.trans (hb.mono bZ.out.size))
     have y6 : u1.cell? ⟨w.heap.size + 1, 6, none⟩ = some (.string qs) := (qZ.out.below hb).cell 6
     clear hb hkc
     have n8 : ((qs.size : Int) ≤ 8) := by have := hs0.out; omega
     go_wp2
     go_ret
     exact ⟨rfl, b1.out⟩
   · have d0 : (ke == 0) = false := by simpa using h0
     rw [d0]
     clear h0
     go_enter Try.func15, Try.ntmps15
     go_wp2_with fail
     try clear y0 y0_ x0 f0 a0 c0 y1_ x1 f1 a1 c1 y2_ x2 f2 a2 c2 y3_ x3 f3 a3 c3 y4_ x4 f4 a4 c4 y5_ x5 f5 a5 c5 y6_ x6 f6 a6 c6 y7_ x7 f7 a7 c7 s0 hV hW hZ
     clear heq
     refine hkc.out.mono ?_
     rintro e u1 ⟨rfl, hb⟩
     have b1 := Lib.hid (bZ.out.trans (hb.mono bZ.out.size))
     have y6 : u1.cell? ⟨w.heap.size + 1, 6, none⟩ = some (.string qs) := (qZ.out.below hb).cell 6
     clear hb hkc
     go_wp2
     go_ret
     exact ⟨rfl, b1.out⟩
set_option maxHeartbeats 4000000 in
theorem rrq_9 (kt ki tt ti qv : Int) (qs : ByteArray) (qn : Int) (tq : Option Addr) (tn tc : Nat) (bs : List BdD) (w : World) (h : SchOn w tq tn tc bs) :
 Calls Try.prog 15 #[.agg #[.slice tq tn tc], .agg #[.int .i64 9, .int .i64 kt, .int .u16 ki, .int .i64 tt, .int .u16 ti, .int .i64 qv, .string qs, .int .i64 qn]] w (RqPost (reqB bs ⟨9, ⟨kt, ki⟩, ⟨tt, ti⟩, qv, qs, qn⟩) w) := by
 have hl := h.len
 obtain ⟨W, hW⟩ : ∃ W, (w.alloc (.cells #[.slice tq tn tc] 24)).alloc (.cells #[.int .i64 9, .int .i64 kt, .int .u16 ki, .int .i64 tt, .int .u16 ti, .int .i64 qv, .string qs, .int .i64 qn] 30) = W := ⟨_, rfl⟩
 have hbx := Lib.hid (two_rowsI (xs := [.slice tq tn tc]) (ys := [.int .i64 9, .int .i64 kt, .int .u16 ki, .int .i64 tt, .int .u16 ti, .int .i64 qv, .string qs, .int .i64 qn]) hW)
 have y0 : W.cell? ⟨w.heap.size + 1, 0, none⟩ = some (.int .i64 9) := hbx.out.2.2.1.cell 0
 have hWs : W.heap.size = w.heap.size + 2 := hbx.out.2.2.2
 obtain ⟨V, hV⟩ : ∃ V, W.alloc (.cells #[.int .i64 0, .int .i64 0, .int .u16 0, .int .i64 0, .int .u16 0, .int .i64 0, .string ⟨#[]⟩, .int .i64 0] 30) = V := ⟨_, rfl⟩
 have hbv := Lib.hid (one_rowI (xs := [.int .i64 0, .int .i64 0, .int .u16 0, .int .i64 0, .int .u16 0, .int .i64 0, .string ⟨#[]⟩, .int .i64 0]) hV)
 rw [hWs] at hbv
 have bV := Lib.hid (hbx.out.1.trans ((show Below W.heap.size W V by rw [hWs]; exact hbv.out.1).mono hbx.out.1.size))
 have sV := Lib.hid (hbx.out.2.1.below (show Below W.heap.size W V by rw [hWs]; exact hbv.out.1))
 have qV := Lib.hid (hbx.out.2.2.1.below (show Below W.heap.size W V by rw [hWs]; exact hbv.out.1))
 have zV := Lib.hid hbv.out.2.1
 have hsz : Hid (w.heap.size + 3 ≤ V.heap.size) := by have h1 := hbv.out.2.2; show _ ≤ _; omega
 have y0_ : V.cell? ⟨w.heap.size + 1, 0, none⟩ = some (.int .i64 9) := qV.out.cell 0
 have x0 : V.cell? ⟨w.heap.size + 2, 0, none⟩ = some (.int .i64 0) := zV.out.cell 0
 have f0 := zV.out.free 0
 have y1_ : V.cell? ⟨w.heap.size + 1, 1, none⟩ = some (.int .i64 kt) := qV.out.cell 1
 have x1 : V.cell? ⟨w.heap.size + 2, 1, none⟩ = some (.int .i64 0) := zV.out.cell 1
 have f1 := zV.out.free 1
 have y2_ : V.cell? ⟨w.heap.size + 1, 2, none⟩ = some (.int .u16 ki) := qV.out.cell 2
 have x2 : V.cell? ⟨w.heap.size + 2, 2, none⟩ = some (.int .u16 0) := zV.out.cell 2
 have f2 := zV.out.free 2
 have y3_ : V.cell? ⟨w.heap.size + 1, 3, none⟩ = some (.int .i64 tt) := qV.out.cell 3
 have x3 : V.cell? ⟨w.heap.size + 2, 3, none⟩ = some (.int .i64 0) := zV.out.cell 3
 have f3 := zV.out.free 3
 have y4_ : V.cell? ⟨w.heap.size + 1, 4, none⟩ = some (.int .u16 ti) := qV.out.cell 4
 have x4 : V.cell? ⟨w.heap.size + 2, 4, none⟩ = some (.int .u16 0) := zV.out.cell 4
 have f4 := zV.out.free 4
 have y5_ : V.cell? ⟨w.heap.size + 1, 5, none⟩ = some (.int .i64 qv) := qV.out.cell 5
 have x5 : V.cell? ⟨w.heap.size + 2, 5, none⟩ = some (.int .i64 0) := zV.out.cell 5
 have f5 := zV.out.free 5
 have y6_ : V.cell? ⟨w.heap.size + 1, 6, none⟩ = some (.string qs) := qV.out.cell 6
 have x6 : V.cell? ⟨w.heap.size + 2, 6, none⟩ = some (.string ⟨#[]⟩) := zV.out.cell 6
 have f6 := zV.out.free 6
 have y7_ : V.cell? ⟨w.heap.size + 1, 7, none⟩ = some (.int .i64 qn) := qV.out.cell 7
 have x7 : V.cell? ⟨w.heap.size + 2, 7, none⟩ = some (.int .i64 0) := zV.out.cell 7
 have f7 := zV.out.free 7
 obtain ⟨Z, hZ⟩ : ∃ Z, ((((((((V.setCell ⟨w.heap.size + 2, 0, none⟩ (.int .i64 9)).setCell ⟨w.heap.size + 2, 1, none⟩ (.int .i64 0)).setCell ⟨w.heap.size + 2, 2, none⟩ (.int .u16 0)).setCell ⟨w.heap.size + 2, 3, none⟩ (.int .i64 0)).setCell ⟨w.heap.size + 2, 4, none⟩ (.int .u16 0)).setCell ⟨w.heap.size + 2, 5, none⟩ (.int .i64 0)).setCell ⟨w.heap.size + 2, 6, none⟩ (.string ⟨#[]⟩)).setCell ⟨w.heap.size + 2, 7, none⟩ (.int .i64 0)) = Z := ⟨_, rfl⟩
 have zZ : Hid (RowV 30 Z (w.heap.size + 2) [.int .i64 9, .int .i64 0, .int .u16 0, .int .i64 0, .int .u16 0, .int .i64 0, .string ⟨#[]⟩, .int .i64 0]) := by
  show RowV _ _ _ _
  rw [← hZ]
  exact ((((((((zV.out.set 0 (.int .i64 9)).set 1 (.int .i64 0)).set 2 (.int .u16 0)).set 3 (.int .i64 0)).set 4 (.int .u16 0)).set 5 (.int .i64 0)).set 6 (.string ⟨#[]⟩)).set 7 (.int .i64 0))
 have qZ : Hid (RowV 30 Z (w.heap.size + 1) [.int .i64 9, .int .i64 kt, .int .u16 ki, .int .i64 tt, .int .u16 ti, .int .i64 qv, .string qs, .int .i64 qn]) := by
  show RowV _ _ _ _
  rw [← hZ]
  exact ((((((((qV.out.kept (setCell_grown _ _ _ _) (by omega)).kept (setCell_grown _ _ _ _) (by omega)).kept (setCell_grown _ _ _ _) (by omega)).kept (setCell_grown _ _ _ _) (by omega)).kept (setCell_grown _ _ _ _) (by omega)).kept (setCell_grown _ _ _ _) (by omega)).kept (setCell_grown _ _ _ _) (by omega)).kept (setCell_grown _ _ _ _) (by omega))
 have sZ : Hid (RowV 24 Z w.heap.size [.slice tq tn tc]) := by
  show RowV _ _ _ _
  rw [← hZ]
  exact ((((((((sV.out.kept (setCell_grown _ _ _ _) (by omega)).kept (setCell_grown _ _ _ _) (by omega)).kept (setCell_grown _ _ _ _) (by omega)).kept (setCell_grown _ _ _ _) (by omega)).kept (setCell_grown _ _ _ _) (by omega)).kept (setCell_grown _ _ _ _) (by omega)).kept (setCell_grown _ _ _ _) (by omega)).kept (setCell_grown _ _ _ _) (by omega))
 have bZ : Hid (Below w.heap.size w Z) := by
  show Below _ _ _
  rw [← hZ]
  exact (bset (bset (bset (bset (bset (bset (bset (bset ⟨bV.out, by have := hsz.out; omega⟩ (Nat.le_add_right _ _)) (Nat.le_add_right _ _)) (Nat.le_add_right _ _)) (Nat.le_add_right _ _)) (Nat.le_add_right _ _)) (Nat.le_add_right _ _)) (Nat.le_add_right _ _)) (Nat.le_add_right _ _)).1
 have hl' := Lib.hid hl
 clear h hl zV qV sV bV hsz hbx hbv
 have s0 : Z.cell? ⟨w.heap.size, 0, none⟩ = some (.slice tq tn tc) := sZ.out.cell 0
 have a0 : Z.cell? ⟨w.heap.size + 1, 0, none⟩ = some (.int .i64 9) := qZ.out.cell 0
 have c0 : Z.cell? ⟨w.heap.size + 2, 0, none⟩ = some (.int .i64 9) := zZ.out.cell 0
 have a1 : Z.cell? ⟨w.heap.size + 1, 1, none⟩ = some (.int .i64 kt) := qZ.out.cell 1
 have c1 : Z.cell? ⟨w.heap.size + 2, 1, none⟩ = some (.int .i64 0) := zZ.out.cell 1
 have a2 : Z.cell? ⟨w.heap.size + 1, 2, none⟩ = some (.int .u16 ki) := qZ.out.cell 2
 have c2 : Z.cell? ⟨w.heap.size + 2, 2, none⟩ = some (.int .u16 0) := zZ.out.cell 2
 have a3 : Z.cell? ⟨w.heap.size + 1, 3, none⟩ = some (.int .i64 tt) := qZ.out.cell 3
 have c3 : Z.cell? ⟨w.heap.size + 2, 3, none⟩ = some (.int .i64 0) := zZ.out.cell 3
 have a4 : Z.cell? ⟨w.heap.size + 1, 4, none⟩ = some (.int .u16 ti) := qZ.out.cell 4
 have c4 : Z.cell? ⟨w.heap.size + 2, 4, none⟩ = some (.int .u16 0) := zZ.out.cell 4
 have a5 : Z.cell? ⟨w.heap.size + 1, 5, none⟩ = some (.int .i64 qv) := qZ.out.cell 5
 have c5 : Z.cell? ⟨w.heap.size + 2, 5, none⟩ = some (.int .i64 0) := zZ.out.cell 5
 have a6 : Z.cell? ⟨w.heap.size + 1, 6, none⟩ = some (.string qs) := qZ.out.cell 6
 have c6 : Z.cell? ⟨w.heap.size + 2, 6, none⟩ = some (.string ⟨#[]⟩) := zZ.out.cell 6
 have a7 : Z.cell? ⟨w.heap.size + 1, 7, none⟩ = some (.int .i64 qn) := qZ.out.cell 7
 have c7 : Z.cell? ⟨w.heap.size + 2, 7, none⟩ = some (.int .i64 0) := zZ.out.cell 7
 have heq := fun u => eq_req u 9 kt ki tt ti qv qs qn 9 0 0 0 0 0 ⟨#[]⟩ 0
 obtain ⟨EQ, hEQ⟩ : ∃ b, zReq (othR ⟨9, ⟨kt, ki⟩, ⟨tt, ti⟩, qv, qs, qn⟩) = b := ⟨_, rfl⟩
 rw [want_9, hEQ] at heq
 have hrq : reqB bs ⟨9, ⟨kt, ki⟩, ⟨tt, ti⟩, qv, qs, qn⟩ = (EQ && cntB bs ⟨9, ⟨kt, ki⟩, ⟨tt, ti⟩, qv, qs, qn⟩) := by unfold reqB; rw [hEQ]
 have hcn : cntB bs ⟨9, ⟨kt, ki⟩, ⟨tt, ti⟩, qv, qs, qn⟩ = true := rfl
 rw [hrq, hcn, Bool.and_true]
 clear hrq hEQ hcn
 go_enter Try.func15, Try.ntmps15
 go_wp2
 go_ret
 exact ⟨rfl, bZ.out⟩
set_option maxHeartbeats 4000000 in
theorem rrq_11 (kt ki tt ti qv : Int) (qs : ByteArray) (qn : Int) (tq : Option Addr) (tn tc : Nat) (bs : List BdD) (w : World) (h : SchOn w tq tn tc bs) :
 Calls Try.prog 15 #[.agg #[.slice tq tn tc], .agg #[.int .i64 11, .int .i64 kt, .int .u16 ki, .int .i64 tt, .int .u16 ti, .int .i64 qv, .string qs, .int .i64 qn]] w (RqPost (reqB bs ⟨11, ⟨kt, ki⟩, ⟨tt, ti⟩, qv, qs, qn⟩) w) := by
 have hl := h.len
 obtain ⟨W, hW⟩ : ∃ W, (w.alloc (.cells #[.slice tq tn tc] 24)).alloc (.cells #[.int .i64 11, .int .i64 kt, .int .u16 ki, .int .i64 tt, .int .u16 ti, .int .i64 qv, .string qs, .int .i64 qn] 30) = W := ⟨_, rfl⟩
 have hbx := Lib.hid (two_rowsI (xs := [.slice tq tn tc]) (ys := [.int .i64 11, .int .i64 kt, .int .u16 ki, .int .i64 tt, .int .u16 ti, .int .i64 qv, .string qs, .int .i64 qn]) hW)
 have y0 : W.cell? ⟨w.heap.size + 1, 0, none⟩ = some (.int .i64 11) := hbx.out.2.2.1.cell 0
 have hWs : W.heap.size = w.heap.size + 2 := hbx.out.2.2.2
 obtain ⟨V, hV⟩ : ∃ V, W.alloc (.cells #[.int .i64 0, .int .i64 0, .int .u16 0, .int .i64 0, .int .u16 0, .int .i64 0, .string ⟨#[]⟩, .int .i64 0] 30) = V := ⟨_, rfl⟩
 have hbv := Lib.hid (one_rowI (xs := [.int .i64 0, .int .i64 0, .int .u16 0, .int .i64 0, .int .u16 0, .int .i64 0, .string ⟨#[]⟩, .int .i64 0]) hV)
 rw [hWs] at hbv
 have bV := Lib.hid (hbx.out.1.trans ((show Below W.heap.size W V by rw [hWs]; exact hbv.out.1).mono hbx.out.1.size))
 have sV := Lib.hid (hbx.out.2.1.below (show Below W.heap.size W V by rw [hWs]; exact hbv.out.1))
 have qV := Lib.hid (hbx.out.2.2.1.below (show Below W.heap.size W V by rw [hWs]; exact hbv.out.1))
 have zV := Lib.hid hbv.out.2.1
 have hsz : Hid (w.heap.size + 3 ≤ V.heap.size) := by have h1 := hbv.out.2.2; show _ ≤ _; omega
 have y0_ : V.cell? ⟨w.heap.size + 1, 0, none⟩ = some (.int .i64 11) := qV.out.cell 0
 have x0 : V.cell? ⟨w.heap.size + 2, 0, none⟩ = some (.int .i64 0) := zV.out.cell 0
 have f0 := zV.out.free 0
 have y1_ : V.cell? ⟨w.heap.size + 1, 1, none⟩ = some (.int .i64 kt) := qV.out.cell 1
 have x1 : V.cell? ⟨w.heap.size + 2, 1, none⟩ = some (.int .i64 0) := zV.out.cell 1
 have f1 := zV.out.free 1
 have y2_ : V.cell? ⟨w.heap.size + 1, 2, none⟩ = some (.int .u16 ki) := qV.out.cell 2
 have x2 : V.cell? ⟨w.heap.size + 2, 2, none⟩ = some (.int .u16 0) := zV.out.cell 2
 have f2 := zV.out.free 2
 have y3_ : V.cell? ⟨w.heap.size + 1, 3, none⟩ = some (.int .i64 tt) := qV.out.cell 3
 have x3 : V.cell? ⟨w.heap.size + 2, 3, none⟩ = some (.int .i64 0) := zV.out.cell 3
 have f3 := zV.out.free 3
 have y4_ : V.cell? ⟨w.heap.size + 1, 4, none⟩ = some (.int .u16 ti) := qV.out.cell 4
 have x4 : V.cell? ⟨w.heap.size + 2, 4, none⟩ = some (.int .u16 0) := zV.out.cell 4
 have f4 := zV.out.free 4
 have y5_ : V.cell? ⟨w.heap.size + 1, 5, none⟩ = some (.int .i64 qv) := qV.out.cell 5
 have x5 : V.cell? ⟨w.heap.size + 2, 5, none⟩ = some (.int .i64 0) := zV.out.cell 5
 have f5 := zV.out.free 5
 have y6_ : V.cell? ⟨w.heap.size + 1, 6, none⟩ = some (.string qs) := qV.out.cell 6
 have x6 : V.cell? ⟨w.heap.size + 2, 6, none⟩ = some (.string ⟨#[]⟩) := zV.out.cell 6
 have f6 := zV.out.free 6
 have y7_ : V.cell? ⟨w.heap.size + 1, 7, none⟩ = some (.int .i64 qn) := qV.out.cell 7
 have x7 : V.cell? ⟨w.heap.size + 2, 7, none⟩ = some (.int .i64 0) := zV.out.cell 7
 have f7 := zV.out.free 7
 obtain ⟨Z, hZ⟩ : ∃ Z, ((((((((V.setCell ⟨w.heap.size + 2, 0, none⟩ (.int .i64 11)).setCell ⟨w.heap.size + 2, 1, none⟩ (.int .i64 0)).setCell ⟨w.heap.size + 2, 2, none⟩ (.int .u16 0)).setCell ⟨w.heap.size + 2, 3, none⟩ (.int .i64 0)).setCell ⟨w.heap.size + 2, 4, none⟩ (.int .u16 0)).setCell ⟨w.heap.size + 2, 5, none⟩ (.int .i64 0)).setCell ⟨w.heap.size + 2, 6, none⟩ (.string ⟨#[]⟩)).setCell ⟨w.heap.size + 2, 7, none⟩ (.int .i64 0)) = Z := ⟨_, rfl⟩
 have zZ : Hid (RowV 30 Z (w.heap.size + 2) [.int .i64 11, .int .i64 0, .int .u16 0, .int .i64 0, .int .u16 0, .int .i64 0, .string ⟨#[]⟩, .int .i64 0]) := by
  show RowV _ _ _ _
  rw [← hZ]
  exact ((((((((zV.out.set 0 (.int .i64 11)).set 1 (.int .i64 0)).set 2 (.int .u16 0)).set 3 (.int .i64 0)).set 4 (.int .u16 0)).set 5 (.int .i64 0)).set 6 (.string ⟨#[]⟩)).set 7 (.int .i64 0))
 have qZ : Hid (RowV 30 Z (w.heap.size + 1) [.int .i64 11, .int .i64 kt, .int .u16 ki, .int .i64 tt, .int .u16 ti, .int .i64 qv, .string qs, .int .i64 qn]) := by
  show RowV _ _ _ _
  rw [← hZ]
  exact ((((((((qV.out.kept (setCell_grown _ _ _ _) (by omega)).kept (setCell_grown _ _ _ _) (by omega)).kept (setCell_grown _ _ _ _) (by omega)).kept (setCell_grown _ _ _ _) (by omega)).kept (setCell_grown _ _ _ _) (by omega)).kept (setCell_grown _ _ _ _) (by omega)).kept (setCell_grown _ _ _ _) (by omega)).kept (setCell_grown _ _ _ _) (by omega))
 have sZ : Hid (RowV 24 Z w.heap.size [.slice tq tn tc]) := by
  show RowV _ _ _ _
  rw [← hZ]
  exact ((((((((sV.out.kept (setCell_grown _ _ _ _) (by omega)).kept (setCell_grown _ _ _ _) (by omega)).kept (setCell_grown _ _ _ _) (by omega)).kept (setCell_grown _ _ _ _) (by omega)).kept (setCell_grown _ _ _ _) (by omega)).kept (setCell_grown _ _ _ _) (by omega)).kept (setCell_grown _ _ _ _) (by omega)).kept (setCell_grown _ _ _ _) (by omega))
 have bZ : Hid (Below w.heap.size w Z) := by
  show Below _ _ _
  rw [← hZ]
  exact (bset (bset (bset (bset (bset (bset (bset (bset ⟨bV.out, by have := hsz.out; omega⟩ (Nat.le_add_right _ _)) (Nat.le_add_right _ _)) (Nat.le_add_right _ _)) (Nat.le_add_right _ _)) (Nat.le_add_right _ _)) (Nat.le_add_right _ _)) (Nat.le_add_right _ _)) (Nat.le_add_right _ _)).1
 have hl' := Lib.hid hl
 clear h hl zV qV sV bV hsz hbx hbv
 have s0 : Z.cell? ⟨w.heap.size, 0, none⟩ = some (.slice tq tn tc) := sZ.out.cell 0
 have a0 : Z.cell? ⟨w.heap.size + 1, 0, none⟩ = some (.int .i64 11) := qZ.out.cell 0
 have c0 : Z.cell? ⟨w.heap.size + 2, 0, none⟩ = some (.int .i64 11) := zZ.out.cell 0
 have a1 : Z.cell? ⟨w.heap.size + 1, 1, none⟩ = some (.int .i64 kt) := qZ.out.cell 1
 have c1 : Z.cell? ⟨w.heap.size + 2, 1, none⟩ = some (.int .i64 0) := zZ.out.cell 1
 have a2 : Z.cell? ⟨w.heap.size + 1, 2, none⟩ = some (.int .u16 ki) := qZ.out.cell 2
 have c2 : Z.cell? ⟨w.heap.size + 2, 2, none⟩ = some (.int .u16 0) := zZ.out.cell 2
 have a3 : Z.cell? ⟨w.heap.size + 1, 3, none⟩ = some (.int .i64 tt) := qZ.out.cell 3
 have c3 : Z.cell? ⟨w.heap.size + 2, 3, none⟩ = some (.int .i64 0) := zZ.out.cell 3
 have a4 : Z.cell? ⟨w.heap.size + 1, 4, none⟩ = some (.int .u16 ti) := qZ.out.cell 4
 have c4 : Z.cell? ⟨w.heap.size + 2, 4, none⟩ = some (.int .u16 0) := zZ.out.cell 4
 have a5 : Z.cell? ⟨w.heap.size + 1, 5, none⟩ = some (.int .i64 qv) := qZ.out.cell 5
 have c5 : Z.cell? ⟨w.heap.size + 2, 5, none⟩ = some (.int .i64 0) := zZ.out.cell 5
 have a6 : Z.cell? ⟨w.heap.size + 1, 6, none⟩ = some (.string qs) := qZ.out.cell 6
 have c6 : Z.cell? ⟨w.heap.size + 2, 6, none⟩ = some (.string ⟨#[]⟩) := zZ.out.cell 6
 have a7 : Z.cell? ⟨w.heap.size + 1, 7, none⟩ = some (.int .i64 qn) := qZ.out.cell 7
 have c7 : Z.cell? ⟨w.heap.size + 2, 7, none⟩ = some (.int .i64 0) := zZ.out.cell 7
 have heq := fun u => eq_req u 11 kt ki tt ti qv qs qn 11 0 0 0 0 0 ⟨#[]⟩ 0
 obtain ⟨EQ, hEQ⟩ : ∃ b, zReq (othR ⟨11, ⟨kt, ki⟩, ⟨tt, ti⟩, qv, qs, qn⟩) = b := ⟨_, rfl⟩
 rw [want_11, hEQ] at heq
 have hrq : reqB bs ⟨11, ⟨kt, ki⟩, ⟨tt, ti⟩, qv, qs, qn⟩ = (EQ && cntB bs ⟨11, ⟨kt, ki⟩, ⟨tt, ti⟩, qv, qs, qn⟩) := by unfold reqB; rw [hEQ]
 have hcn : cntB bs ⟨11, ⟨kt, ki⟩, ⟨tt, ti⟩, qv, qs, qn⟩ = true := rfl
 rw [hrq, hcn, Bool.and_true]
 clear hrq hEQ hcn
 go_enter Try.func15, Try.ntmps15
 go_wp2
 go_ret
 exact ⟨rfl, bZ.out⟩
set_option maxHeartbeats 4000000 in
theorem rrq_12 (kt ki tt ti qv : Int) (qs : ByteArray) (qn : Int) (tq : Option Addr) (tn tc : Nat) (bs : List BdD) (w : World) (h : SchOn w tq tn tc bs) :
 Calls Try.prog 15 #[.agg #[.slice tq tn tc], .agg #[.int .i64 12, .int .i64 kt, .int .u16 ki, .int .i64 tt, .int .u16 ti, .int .i64 qv, .string qs, .int .i64 qn]] w (RqPost (reqB bs ⟨12, ⟨kt, ki⟩, ⟨tt, ti⟩, qv, qs, qn⟩) w) := by
 have hl := h.len
 obtain ⟨W, hW⟩ : ∃ W, (w.alloc (.cells #[.slice tq tn tc] 24)).alloc (.cells #[.int .i64 12, .int .i64 kt, .int .u16 ki, .int .i64 tt, .int .u16 ti, .int .i64 qv, .string qs, .int .i64 qn] 30) = W := ⟨_, rfl⟩
 have hbx := Lib.hid (two_rowsI (xs := [.slice tq tn tc]) (ys := [.int .i64 12, .int .i64 kt, .int .u16 ki, .int .i64 tt, .int .u16 ti, .int .i64 qv, .string qs, .int .i64 qn]) hW)
 have y0 : W.cell? ⟨w.heap.size + 1, 0, none⟩ = some (.int .i64 12) := hbx.out.2.2.1.cell 0
 have hWs : W.heap.size = w.heap.size + 2 := hbx.out.2.2.2
 obtain ⟨V, hV⟩ : ∃ V, W.alloc (.cells #[.int .i64 0, .int .i64 0, .int .u16 0, .int .i64 0, .int .u16 0, .int .i64 0, .string ⟨#[]⟩, .int .i64 0] 30) = V := ⟨_, rfl⟩
 have hbv := Lib.hid (one_rowI (xs := [.int .i64 0, .int .i64 0, .int .u16 0, .int .i64 0, .int .u16 0, .int .i64 0, .string ⟨#[]⟩, .int .i64 0]) hV)
 rw [hWs] at hbv
 have bV := Lib.hid (hbx.out.1.trans ((show Below W.heap.size W V by rw [hWs]; exact hbv.out.1).mono hbx.out.1.size))
 have sV := Lib.hid (hbx.out.2.1.below (show Below W.heap.size W V by rw [hWs]; exact hbv.out.1))
 have qV := Lib.hid (hbx.out.2.2.1.below (show Below W.heap.size W V by rw [hWs]; exact hbv.out.1))
 have zV := Lib.hid hbv.out.2.1
 have hsz : Hid (w.heap.size + 3 ≤ V.heap.size) := by have h1 := hbv.out.2.2; show _ ≤ _; omega
 have y0_ : V.cell? ⟨w.heap.size + 1, 0, none⟩ = some (.int .i64 12) := qV.out.cell 0
 have x0 : V.cell? ⟨w.heap.size + 2, 0, none⟩ = some (.int .i64 0) := zV.out.cell 0
 have f0 := zV.out.free 0
 have y1_ : V.cell? ⟨w.heap.size + 1, 1, none⟩ = some (.int .i64 kt) := qV.out.cell 1
 have x1 : V.cell? ⟨w.heap.size + 2, 1, none⟩ = some (.int .i64 0) := zV.out.cell 1
 have f1 := zV.out.free 1
 have y2_ : V.cell? ⟨w.heap.size + 1, 2, none⟩ = some (.int .u16 ki) := qV.out.cell 2
 have x2 : V.cell? ⟨w.heap.size + 2, 2, none⟩ = some (.int .u16 0) := zV.out.cell 2
 have f2 := zV.out.free 2
 have y3_ : V.cell? ⟨w.heap.size + 1, 3, none⟩ = some (.int .i64 tt) := qV.out.cell 3
 have x3 : V.cell? ⟨w.heap.size + 2, 3, none⟩ = some (.int .i64 0) := zV.out.cell 3
 have f3 := zV.out.free 3
 have y4_ : V.cell? ⟨w.heap.size + 1, 4, none⟩ = some (.int .u16 ti) := qV.out.cell 4
 have x4 : V.cell? ⟨w.heap.size + 2, 4, none⟩ = some (.int .u16 0) := zV.out.cell 4
 have f4 := zV.out.free 4
 have y5_ : V.cell? ⟨w.heap.size + 1, 5, none⟩ = some (.int .i64 qv) := qV.out.cell 5
 have x5 : V.cell? ⟨w.heap.size + 2, 5, none⟩ = some (.int .i64 0) := zV.out.cell 5
 have f5 := zV.out.free 5
 have y6_ : V.cell? ⟨w.heap.size + 1, 6, none⟩ = some (.string qs) := qV.out.cell 6
 have x6 : V.cell? ⟨w.heap.size + 2, 6, none⟩ = some (.string ⟨#[]⟩) := zV.out.cell 6
 have f6 := zV.out.free 6
 have y7_ : V.cell? ⟨w.heap.size + 1, 7, none⟩ = some (.int .i64 qn) := qV.out.cell 7
 have x7 : V.cell? ⟨w.heap.size + 2, 7, none⟩ = some (.int .i64 0) := zV.out.cell 7
 have f7 := zV.out.free 7
 obtain ⟨Z, hZ⟩ : ∃ Z, ((((((((V.setCell ⟨w.heap.size + 2, 0, none⟩ (.int .i64 12)).setCell ⟨w.heap.size + 2, 1, none⟩ (.int .i64 0)).setCell ⟨w.heap.size + 2, 2, none⟩ (.int .u16 0)).setCell ⟨w.heap.size + 2, 3, none⟩ (.int .i64 0)).setCell ⟨w.heap.size + 2, 4, none⟩ (.int .u16 0)).setCell ⟨w.heap.size + 2, 5, none⟩ (.int .i64 0)).setCell ⟨w.heap.size + 2, 6, none⟩ (.string ⟨#[]⟩)).setCell ⟨w.heap.size + 2, 7, none⟩ (.int .i64 0)) = Z := ⟨_, rfl⟩
 have zZ : Hid (RowV 30 Z (w.heap.size + 2) [.int .i64 12, .int .i64 0, .int .u16 0, .int .i64 0, .int .u16 0, .int .i64 0, .string ⟨#[]⟩, .int .i64 0]) := by
  show RowV _ _ _ _
  rw [← hZ]
  exact ((((((((zV.out.set 0 (.int .i64 12)).set 1 (.int .i64 0)).set 2 (.int .u16 0)).set 3 (.int .i64 0)).set 4 (.int .u16 0)).set 5 (.int .i64 0)).set 6 (.string ⟨#[]⟩)).set 7 (.int .i64 0))
 have qZ : Hid (RowV 30 Z (w.heap.size + 1) [.int .i64 12, .int .i64 kt, .int .u16 ki, .int .i64 tt, .int .u16 ti, .int .i64 qv, .string qs, .int .i64 qn]) := by
  show RowV _ _ _ _
  rw [← hZ]
  exact ((((((((qV.out.kept (setCell_grown _ _ _ _) (by omega)).kept (setCell_grown _ _ _ _) (by omega)).kept (setCell_grown _ _ _ _) (by omega)).kept (setCell_grown _ _ _ _) (by omega)).kept (setCell_grown _ _ _ _) (by omega)).kept (setCell_grown _ _ _ _) (by omega)).kept (setCell_grown _ _ _ _) (by omega)).kept (setCell_grown _ _ _ _) (by omega))
 have sZ : Hid (RowV 24 Z w.heap.size [.slice tq tn tc]) := by
  show RowV _ _ _ _
  rw [← hZ]
  exact ((((((((sV.out.kept (setCell_grown _ _ _ _) (by omega)).kept (setCell_grown _ _ _ _) (by omega)).kept (setCell_grown _ _ _ _) (by omega)).kept (setCell_grown _ _ _ _) (by omega)).kept (setCell_grown _ _ _ _) (by omega)).kept (setCell_grown _ _ _ _) (by omega)).kept (setCell_grown _ _ _ _) (by omega)).kept (setCell_grown _ _ _ _) (by omega))
 have bZ : Hid (Below w.heap.size w Z) := by
  show Below _ _ _
  rw [← hZ]
  exact (bset (bset (bset (bset (bset (bset (bset (bset ⟨bV.out, by have := hsz.out; omega⟩ (Nat.le_add_right _ _)) (Nat.le_add_right _ _)) (Nat.le_add_right _ _)) (Nat.le_add_right _ _)) (Nat.le_add_right _ _)) (Nat.le_add_right _ _)) (Nat.le_add_right _ _)) (Nat.le_add_right _ _)).1
 have hl' := Lib.hid hl
 clear h hl zV qV sV bV hsz hbx hbv
 have s0 : Z.cell? ⟨w.heap.size, 0, none⟩ = some (.slice tq tn tc) := sZ.out.cell 0
 have a0 : Z.cell? ⟨w.heap.size + 1, 0, none⟩ = some (.int .i64 12) := qZ.out.cell 0
 have c0 : Z.cell? ⟨w.heap.size + 2, 0, none⟩ = some (.int .i64 12) := zZ.out.cell 0
 have a1 : Z.cell? ⟨w.heap.size + 1, 1, none⟩ = some (.int .i64 kt) := qZ.out.cell 1
 have c1 : Z.cell? ⟨w.heap.size + 2, 1, none⟩ = some (.int .i64 0) := zZ.out.cell 1
 have a2 : Z.cell? ⟨w.heap.size + 1, 2, none⟩ = some (.int .u16 ki) := qZ.out.cell 2
 have c2 : Z.cell? ⟨w.heap.size + 2, 2, none⟩ = some (.int .u16 0) := zZ.out.cell 2
 have a3 : Z.cell? ⟨w.heap.size + 1, 3, none⟩ = some (.int .i64 tt) := qZ.out.cell 3
 have c3 : Z.cell? ⟨w.heap.size + 2, 3, none⟩ = some (.int .i64 0) := zZ.out.cell 3
 have a4 : Z.cell? ⟨w.heap.size + 1, 4, none⟩ = some (.int .u16 ti) := qZ.out.cell 4
 have c4 : Z.cell? ⟨w.heap.size + 2, 4, none⟩ = some (.int .u16 0) := zZ.out.cell 4
 have a5 : Z.cell? ⟨w.heap.size + 1, 5, none⟩ = some (.int .i64 qv) := qZ.out.cell 5
 have c5 : Z.cell? ⟨w.heap.size + 2, 5, none⟩ = some (.int .i64 0) := zZ.out.cell 5
 have a6 : Z.cell? ⟨w.heap.size + 1, 6, none⟩ = some (.string qs) := qZ.out.cell 6
 have c6 : Z.cell? ⟨w.heap.size + 2, 6, none⟩ = some (.string ⟨#[]⟩) := zZ.out.cell 6
 have a7 : Z.cell? ⟨w.heap.size + 1, 7, none⟩ = some (.int .i64 qn) := qZ.out.cell 7
 have c7 : Z.cell? ⟨w.heap.size + 2, 7, none⟩ = some (.int .i64 0) := zZ.out.cell 7
 have heq := fun u => eq_req u 12 kt ki tt ti qv qs qn 12 0 0 0 0 0 ⟨#[]⟩ 0
 obtain ⟨EQ, hEQ⟩ : ∃ b, zReq (othR ⟨12, ⟨kt, ki⟩, ⟨tt, ti⟩, qv, qs, qn⟩) = b := ⟨_, rfl⟩
 rw [want_12, hEQ] at heq
 have hrq : reqB bs ⟨12, ⟨kt, ki⟩, ⟨tt, ti⟩, qv, qs, qn⟩ = (EQ && cntB bs ⟨12, ⟨kt, ki⟩, ⟨tt, ti⟩, qv, qs, qn⟩) := by unfold reqB; rw [hEQ]
 have hcn : cntB bs ⟨12, ⟨kt, ki⟩, ⟨tt, ti⟩, qv, qs, qn⟩ = true := rfl
 rw [hrq, hcn, Bool.and_true]
 clear hrq hEQ hcn
 go_enter Try.func15, Try.ntmps15
 go_wp2
 go_ret
 exact ⟨rfl, bZ.out⟩
set_option maxHeartbeats 4000000 in
theorem rrq_10 (kt ki tt ti qv : Int) (qs : ByteArray) (qn : Int) (tq : Option Addr) (tn tc : Nat) (bs : List BdD) (w : World) (h : SchOn w tq tn tc bs) :
 Calls Try.prog 15 #[.agg #[.slice tq tn tc], .agg #[.int .i64 10, .int .i64 kt, .int .u16 ki, .int .i64 tt, .int .u16 ti, .int .i64 qv, .string qs, .int .i64 qn]] w (RqPost (reqB bs ⟨10, ⟨kt, ki⟩, ⟨tt, ti⟩, qv, qs, qn⟩) w) := by
 have hl := h.len
 obtain ⟨W, hW⟩ : ∃ W, (w.alloc (.cells #[.slice tq tn tc] 24)).alloc (.cells #[.int .i64 10, .int .i64 kt, .int .u16 ki, .int .i64 tt, .int .u16 ti, .int .i64 qv, .string qs, .int .i64 qn] 30) = W := ⟨_, rfl⟩
 have hbx := Lib.hid (two_rowsI (xs := [.slice tq tn tc]) (ys := [.int .i64 10, .int .i64 kt, .int .u16 ki, .int .i64 tt, .int .u16 ti, .int .i64 qv, .string qs, .int .i64 qn]) hW)
 have y0 : W.cell? ⟨w.heap.size + 1, 0, none⟩ = some (.int .i64 10) := hbx.out.2.2.1.cell 0
 have hWs : W.heap.size = w.heap.size + 2 := hbx.out.2.2.2
 obtain ⟨V, hV⟩ : ∃ V, W.alloc (.cells #[.int .i64 0, .int .i64 0, .int .u16 0, .int .i64 0, .int .u16 0, .int .i64 0, .string ⟨#[]⟩, .int .i64 0] 30) = V := ⟨_, rfl⟩
 have hbv := Lib.hid (one_rowI (xs := [.int .i64 0, .int .i64 0, .int .u16 0, .int .i64 0, .int .u16 0, .int .i64 0, .string ⟨#[]⟩, .int .i64 0]) hV)
 rw [hWs] at hbv
 have bV := Lib.hid (hbx.out.1.trans ((show Below W.heap.size W V by rw [hWs]; exact hbv.out.1).mono hbx.out.1.size))
 have sV := Lib.hid (hbx.out.2.1.below (show Below W.heap.size W V by rw [hWs]; exact hbv.out.1))
 have qV := Lib.hid (hbx.out.2.2.1.below (show Below W.heap.size W V by rw [hWs]; exact hbv.out.1))
 have zV := Lib.hid hbv.out.2.1
 have hsz : Hid (w.heap.size + 3 ≤ V.heap.size) := by have h1 := hbv.out.2.2; show _ ≤ _; omega
 have y0_ : V.cell? ⟨w.heap.size + 1, 0, none⟩ = some (.int .i64 10) := qV.out.cell 0
 have x0 : V.cell? ⟨w.heap.size + 2, 0, none⟩ = some (.int .i64 0) := zV.out.cell 0
 have f0 := zV.out.free 0
 have y1_ : V.cell? ⟨w.heap.size + 1, 1, none⟩ = some (.int .i64 kt) := qV.out.cell 1
 have x1 : V.cell? ⟨w.heap.size + 2, 1, none⟩ = some (.int .i64 0) := zV.out.cell 1
 have f1 := zV.out.free 1
 have y2_ : V.cell? ⟨w.heap.size + 1, 2, none⟩ = some (.int .u16 ki) := qV.out.cell 2
 have x2 : V.cell? ⟨w.heap.size + 2, 2, none⟩ = some (.int .u16 0) := zV.out.cell 2
 have f2 := zV.out.free 2
 have y3_ : V.cell? ⟨w.heap.size + 1, 3, none⟩ = some (.int .i64 tt) := qV.out.cell 3
 have x3 : V.cell? ⟨w.heap.size + 2, 3, none⟩ = some (.int .i64 0) := zV.out.cell 3
 have f3 := zV.out.free 3
 have y4_ : V.cell? ⟨w.heap.size + 1, 4, none⟩ = some (.int .u16 ti) := qV.out.cell 4
 have x4 : V.cell? ⟨w.heap.size + 2, 4, none⟩ = some (.int .u16 0) := zV.out.cell 4
 have f4 := zV.out.free 4
 have y5_ : V.cell? ⟨w.heap.size + 1, 5, none⟩ = some (.int .i64 qv) := qV.out.cell 5
 have x5 : V.cell? ⟨w.heap.size + 2, 5, none⟩ = some (.int .i64 0) := zV.out.cell 5
 have f5 := zV.out.free 5
 have y6_ : V.cell? ⟨w.heap.size + 1, 6, none⟩ = some (.string qs) := qV.out.cell 6
 have x6 : V.cell? ⟨w.heap.size + 2, 6, none⟩ = some (.string ⟨#[]⟩) := zV.out.cell 6
 have f6 := zV.out.free 6
 have y7_ : V.cell? ⟨w.heap.size + 1, 7, none⟩ = some (.int .i64 qn) := qV.out.cell 7
 have x7 : V.cell? ⟨w.heap.size + 2, 7, none⟩ = some (.int .i64 0) := zV.out.cell 7
 have f7 := zV.out.free 7
 obtain ⟨Z, hZ⟩ : ∃ Z, (((((((((V.setCell ⟨w.heap.size + 2, 0, none⟩ (.int .i64 10)).setCell ⟨w.heap.size + 2, 1, none⟩ (.int .i64 0)).setCell ⟨w.heap.size + 2, 2, none⟩ (.int .u16 0)).setCell ⟨w.heap.size + 2, 3, none⟩ (.int .i64 0)).setCell ⟨w.heap.size + 2, 4, none⟩ (.int .u16 0)).setCell ⟨w.heap.size + 2, 5, none⟩ (.int .i64 0)).setCell ⟨w.heap.size + 2, 6, none⟩ (.string ⟨#[]⟩)).setCell ⟨w.heap.size + 2, 7, none⟩ (.int .i64 0)).setCell ⟨w.heap.size + 2, 7, none⟩ (.int .i64 qn)) = Z := ⟨_, rfl⟩
 have zZ : Hid (RowV 30 Z (w.heap.size + 2) [.int .i64 10, .int .i64 0, .int .u16 0, .int .i64 0, .int .u16 0, .int .i64 0, .string ⟨#[]⟩, .int .i64 qn]) := by
  show RowV _ _ _ _
  rw [← hZ]
  exact (((((((((zV.out.set 0 (.int .i64 10)).set 1 (.int .i64 0)).set 2 (.int .u16 0)).set 3 (.int .i64 0)).set 4 (.int .u16 0)).set 5 (.int .i64 0)).set 6 (.string ⟨#[]⟩)).set 7 (.int .i64 0)).set 7 (.int .i64 qn))
 have qZ : Hid (RowV 30 Z (w.heap.size + 1) [.int .i64 10, .int .i64 kt, .int .u16 ki, .int .i64 tt, .int .u16 ti, .int .i64 qv, .string qs, .int .i64 qn]) := by
  show RowV _ _ _ _
  rw [← hZ]
  exact (((((((((qV.out.kept (setCell_grown _ _ _ _) (by omega)).kept (setCell_grown _ _ _ _) (by omega)).kept (setCell_grown _ _ _ _) (by omega)).kept (setCell_grown _ _ _ _) (by omega)).kept (setCell_grown _ _ _ _) (by omega)).kept (setCell_grown _ _ _ _) (by omega)).kept (setCell_grown _ _ _ _) (by omega)).kept (setCell_grown _ _ _ _) (by omega)).kept (setCell_grown _ _ _ _) (by omega))
 have sZ : Hid (RowV 24 Z w.heap.size [.slice tq tn tc]) := by
  show RowV _ _ _ _
  rw [← hZ]
  exact (((((((((sV.out.kept (setCell_grown _ _ _ _) (by omega)).kept (setCell_grown _ _ _ _) (by omega)).kept (setCell_grown _ _ _ _) (by omega)).kept (setCell_grown _ _ _ _) (by omega)).kept (setCell_grown _ _ _ _) (by omega)).kept (setCell_grown _ _ _ _) (by omega)).kept (setCell_grown _ _ _ _) (by omega)).kept (setCell_grown _ _ _ _) (by omega)).kept (setCell_grown _ _ _ _) (by omega))
 have bZ : Hid (Below w.heap.size w Z) := by
  show Below _ _ _
  rw [← hZ]
  exact (bset (bset (bset (bset (bset (bset (bset (bset (bset ⟨bV.out, by have := hsz.out; omega⟩ (Nat.le_add_right _ _)) (Nat.le_add_right _ _)) (Nat.le_add_right _ _)) (Nat.le_add_right _ _)) (Nat.le_add_right _ _)) (Nat.le_add_right _ _)) (Nat.le_add_right _ _)) (Nat.le_add_right _ _)) (Nat.le_add_right _ _)).1
 have hl' := Lib.hid hl
 clear h hl zV qV sV bV hsz hbx hbv
 have s0 : Z.cell? ⟨w.heap.size, 0, none⟩ = some (.slice tq tn tc) := sZ.out.cell 0
 have a0 : Z.cell? ⟨w.heap.size + 1, 0, none⟩ = some (.int .i64 10) := qZ.out.cell 0
 have c0 : Z.cell? ⟨w.heap.size + 2, 0, none⟩ = some (.int .i64 10) := zZ.out.cell 0
 have a1 : Z.cell? ⟨w.heap.size + 1, 1, none⟩ = some (.int .i64 kt) := qZ.out.cell 1
 have c1 : Z.cell? ⟨w.heap.size + 2, 1, none⟩ = some (.int .i64 0) := zZ.out.cell 1
 have a2 : Z.cell? ⟨w.heap.size + 1, 2, none⟩ = some (.int .u16 ki) := qZ.out.cell 2
 have c2 : Z.cell? ⟨w.heap.size + 2, 2, none⟩ = some (.int .u16 0) := zZ.out.cell 2
 have a3 : Z.cell? ⟨w.heap.size + 1, 3, none⟩ = some (.int .i64 tt) := qZ.out.cell 3
 have c3 : Z.cell? ⟨w.heap.size + 2, 3, none⟩ = some (.int .i64 0) := zZ.out.cell 3
 have a4 : Z.cell? ⟨w.heap.size + 1, 4, none⟩ = some (.int .u16 ti) := qZ.out.cell 4
 have c4 : Z.cell? ⟨w.heap.size + 2, 4, none⟩ = some (.int .u16 0) := zZ.out.cell 4
 have a5 : Z.cell? ⟨w.heap.size + 1, 5, none⟩ = some (.int .i64 qv) := qZ.out.cell 5
 have c5 : Z.cell? ⟨w.heap.size + 2, 5, none⟩ = some (.int .i64 0) := zZ.out.cell 5
 have a6 : Z.cell? ⟨w.heap.size + 1, 6, none⟩ = some (.string qs) := qZ.out.cell 6
 have c6 : Z.cell? ⟨w.heap.size + 2, 6, none⟩ = some (.string ⟨#[]⟩) := zZ.out.cell 6
 have a7 : Z.cell? ⟨w.heap.size + 1, 7, none⟩ = some (.int .i64 qn) := qZ.out.cell 7
 have c7 : Z.cell? ⟨w.heap.size + 2, 7, none⟩ = some (.int .i64 qn) := zZ.out.cell 7
 have heq := fun u => eq_req u 10 kt ki tt ti qv qs qn 10 0 0 0 0 0 ⟨#[]⟩ qn
 obtain ⟨EQ, hEQ⟩ : ∃ b, zReq (othR ⟨10, ⟨kt, ki⟩, ⟨tt, ti⟩, qv, qs, qn⟩) = b := ⟨_, rfl⟩
 rw [want_10, hEQ] at heq
 have hrq : reqB bs ⟨10, ⟨kt, ki⟩, ⟨tt, ti⟩, qv, qs, qn⟩ = (EQ && cntB bs ⟨10, ⟨kt, ki⟩, ⟨tt, ti⟩, qv, qs, qn⟩) := by unfold reqB; rw [hEQ]
 have hcn : cntB bs ⟨10, ⟨kt, ki⟩, ⟨tt, ti⟩, qv, qs, qn⟩ = decide (1 ≤ qn) := rfl
 rw [hrq, hcn]
 clear hrq hEQ hcn
 cases EQ with
 | false =>
   go_enter Try.func15, Try.ntmps15
   go_wp2
   go_ret
   exact ⟨rfl, bZ.out⟩
 | true =>
   go_enter Try.func15, Try.ntmps15
   go_wp2
   go_ret
   exact ⟨rfl, bZ.out⟩
set_option maxHeartbeats 4000000 in
theorem rrq_8 (kt ki tt ti qv : Int) (qs : ByteArray) (qn : Int) (tq : Option Addr) (tn tc : Nat) (bs : List BdD) (w : World) (h : SchOn w tq tn tc bs) (hS : okS bs = true) :
 Calls Try.prog 15 #[.agg #[.slice tq tn tc], .agg #[.int .i64 8, .int .i64 kt, .int .u16 ki, .int .i64 tt, .int .u16 ti, .int .i64 qv, .string qs, .int .i64 qn]] w (RqPost (reqB bs ⟨8, ⟨kt, ki⟩, ⟨tt, ti⟩, qv, qs, qn⟩) w) := by
 have hl := h.len
 obtain ⟨W, hW⟩ : ∃ W, (w.alloc (.cells #[.slice tq tn tc] 24)).alloc (.cells #[.int .i64 8, .int .i64 kt, .int .u16 ki, .int .i64 tt, .int .u16 ti, .int .i64 qv, .string qs, .int .i64 qn] 30) = W := ⟨_, rfl⟩
 have hbx := Lib.hid (two_rowsI (xs := [.slice tq tn tc]) (ys := [.int .i64 8, .int .i64 kt, .int .u16 ki, .int .i64 tt, .int .u16 ti, .int .i64 qv, .string qs, .int .i64 qn]) hW)
 have y0 : W.cell? ⟨w.heap.size + 1, 0, none⟩ = some (.int .i64 8) := hbx.out.2.2.1.cell 0
 have hWs : W.heap.size = w.heap.size + 2 := hbx.out.2.2.2
 obtain ⟨V, hV⟩ : ∃ V, W.alloc (.cells #[.int .i64 0, .int .i64 0, .int .u16 0, .int .i64 0, .int .u16 0, .int .i64 0, .string ⟨#[]⟩, .int .i64 0] 30) = V := ⟨_, rfl⟩
 have hbv := Lib.hid (one_rowI (xs := [.int .i64 0, .int .i64 0, .int .u16 0, .int .i64 0, .int .u16 0, .int .i64 0, .string ⟨#[]⟩, .int .i64 0]) hV)
 rw [hWs] at hbv
 have bV := Lib.hid (hbx.out.1.trans ((show Below W.heap.size W V by rw [hWs]; exact hbv.out.1).mono hbx.out.1.size))
 have sV := Lib.hid (hbx.out.2.1.below (show Below W.heap.size W V by rw [hWs]; exact hbv.out.1))
 have qV := Lib.hid (hbx.out.2.2.1.below (show Below W.heap.size W V by rw [hWs]; exact hbv.out.1))
 have zV := Lib.hid hbv.out.2.1
 have hsz : Hid (w.heap.size + 3 ≤ V.heap.size) := by have h1 := hbv.out.2.2; show _ ≤ _; omega
 have y0_ : V.cell? ⟨w.heap.size + 1, 0, none⟩ = some (.int .i64 8) := qV.out.cell 0
 have x0 : V.cell? ⟨w.heap.size + 2, 0, none⟩ = some (.int .i64 0) := zV.out.cell 0
 have f0 := zV.out.free 0
 have y1_ : V.cell? ⟨w.heap.size + 1, 1, none⟩ = some (.int .i64 kt) := qV.out.cell 1
 have x1 : V.cell? ⟨w.heap.size + 2, 1, none⟩ = some (.int .i64 0) := zV.out.cell 1
 have f1 := zV.out.free 1
 have y2_ : V.cell? ⟨w.heap.size + 1, 2, none⟩ = some (.int .u16 ki) := qV.out.cell 2
 have x2 : V.cell? ⟨w.heap.size + 2, 2, none⟩ = some (.int .u16 0) := zV.out.cell 2
 have f2 := zV.out.free 2
 have y3_ : V.cell? ⟨w.heap.size + 1, 3, none⟩ = some (.int .i64 tt) := qV.out.cell 3
 have x3 : V.cell? ⟨w.heap.size + 2, 3, none⟩ = some (.int .i64 0) := zV.out.cell 3
 have f3 := zV.out.free 3
 have y4_ : V.cell? ⟨w.heap.size + 1, 4, none⟩ = some (.int .u16 ti) := qV.out.cell 4
 have x4 : V.cell? ⟨w.heap.size + 2, 4, none⟩ = some (.int .u16 0) := zV.out.cell 4
 have f4 := zV.out.free 4
 have y5_ : V.cell? ⟨w.heap.size + 1, 5, none⟩ = some (.int .i64 qv) := qV.out.cell 5
 have x5 : V.cell? ⟨w.heap.size + 2, 5, none⟩ = some (.int .i64 0) := zV.out.cell 5
 have f5 := zV.out.free 5
 have y6_ : V.cell? ⟨w.heap.size + 1, 6, none⟩ = some (.string qs) := qV.out.cell 6
 have x6 : V.cell? ⟨w.heap.size + 2, 6, none⟩ = some (.string ⟨#[]⟩) := zV.out.cell 6
 have f6 := zV.out.free 6
 have y7_ : V.cell? ⟨w.heap.size + 1, 7, none⟩ = some (.int .i64 qn) := qV.out.cell 7
 have x7 : V.cell? ⟨w.heap.size + 2, 7, none⟩ = some (.int .i64 0) := zV.out.cell 7
 have f7 := zV.out.free 7
 obtain ⟨Z, hZ⟩ : ∃ Z, (((((((((((((V.setCell ⟨w.heap.size + 2, 0, none⟩ (.int .i64 8)).setCell ⟨w.heap.size + 2, 1, none⟩ (.int .i64 0)).setCell ⟨w.heap.size + 2, 2, none⟩ (.int .u16 0)).setCell ⟨w.heap.size + 2, 3, none⟩ (.int .i64 0)).setCell ⟨w.heap.size + 2, 4, none⟩ (.int .u16 0)).setCell ⟨w.heap.size + 2, 5, none⟩ (.int .i64 0)).setCell ⟨w.heap.size + 2, 6, none⟩ (.string ⟨#[]⟩)).setCell ⟨w.heap.size + 2, 7, none⟩ (.int .i64 0)).setCell ⟨w.heap.size + 2, 1, none⟩ (.int .i64 kt)).setCell ⟨w.heap.size + 2, 2, none⟩ (.int .u16 ki)).setCell ⟨w.heap.size + 2, 3, none⟩ (.int .i64 tt)).setCell ⟨w.heap.size + 2, 4, none⟩ (.int .u16 ti)).setCell ⟨w.heap.size + 2, 5, none⟩ (.int .i64 qv)) = Z := ⟨_, rfl⟩
 have zZ : Hid (RowV 30 Z (w.heap.size + 2) [.int .i64 8, .int .i64 kt, .int .u16 ki, .int .i64 tt, .int .u16 ti, .int .i64 qv, .string ⟨#[]⟩, .int .i64 0]) := by
  show RowV _ _ _ _
  rw [← hZ]
  exact (((((((((((((zV.out.set 0 (.int .i64 8)).set 1 (.int .i64 0)).set 2 (.int .u16 0)).set 3 (.int .i64 0)).set 4 (.int .u16 0)).set 5 (.int .i64 0)).set 6 (.string ⟨#[]⟩)).set 7 (.int .i64 0)).set 1 (.int .i64 kt)).set 2 (.int .u16 ki)).set 3 (.int .i64 tt)).set 4 (.int .u16 ti)).set 5 (.int .i64 qv))
 have qZ : Hid (RowV 30 Z (w.heap.size + 1) [.int .i64 8, .int .i64 kt, .int .u16 ki, .int .i64 tt, .int .u16 ti, .int .i64 qv, .string qs, .int .i64 qn]) := by
  show RowV _ _ _ _
  rw [← hZ]
  exact (((((((((((((qV.out.kept (setCell_grown _ _ _ _) (by omega)).kept (setCell_grown _ _ _ _) (by omega)).kept (setCell_grown _ _ _ _) (by omega)).kept (setCell_grown _ _ _ _) (by omega)).kept (setCell_grown _ _ _ _) (by omega)).kept (setCell_grown _ _ _ _) (by omega)).kept (setCell_grown _ _ _ _) (by omega)).kept (setCell_grown _ _ _ _) (by omega)).kept (setCell_grown _ _ _ _) (by omega)).kept (setCell_grown _ _ _ _) (by omega)).kept (setCell_grown _ _ _ _) (by omega)).kept (setCell_grown _ _ _ _) (by omega)).kept (setCell_grown _ _ _ _) (by omega))
 have sZ : Hid (RowV 24 Z w.heap.size [.slice tq tn tc]) := by
  show RowV _ _ _ _
  rw [← hZ]
  exact (((((((((((((sV.out.kept (setCell_grown _ _ _ _) (by omega)).kept (setCell_grown _ _ _ _) (by omega)).kept (setCell_grown _ _ _ _) (by omega)).kept (setCell_grown _ _ _ _) (by omega)).kept (setCell_grown _ _ _ _) (by omega)).kept (setCell_grown _ _ _ _) (by omega)).kept (setCell_grown _ _ _ _) (by omega)).kept (setCell_grown _ _ _ _) (by omega)).kept (setCell_grown _ _ _ _) (by omega)).kept (setCell_grown _ _ _ _) (by omega)).kept (setCell_grown _ _ _ _) (by omega)).kept (setCell_grown _ _ _ _) (by omega)).kept (setCell_grown _ _ _ _) (by omega))
 have bZ : Hid (Below w.heap.size w Z) := by
  show Below _ _ _
  rw [← hZ]
  exact (bset (bset (bset (bset (bset (bset (bset (bset (bset (bset (bset (bset (bset ⟨bV.out, by have := hsz.out; omega⟩ (Nat.le_add_right _ _)) (Nat.le_add_right _ _)) (Nat.le_add_right _ _)) (Nat.le_add_right _ _)) (Nat.le_add_right _ _)) (Nat.le_add_right _ _)) (Nat.le_add_right _ _)) (Nat.le_add_right _ _)) (Nat.le_add_right _ _)) (Nat.le_add_right _ _)) (Nat.le_add_right _ _)) (Nat.le_add_right _ _)) (Nat.le_add_right _ _)).1
 have hl' := Lib.hid hl
 clear h hl zV qV sV bV hsz hbx hbv
 have s0 : Z.cell? ⟨w.heap.size, 0, none⟩ = some (.slice tq tn tc) := sZ.out.cell 0
 have a0 : Z.cell? ⟨w.heap.size + 1, 0, none⟩ = some (.int .i64 8) := qZ.out.cell 0
 have c0 : Z.cell? ⟨w.heap.size + 2, 0, none⟩ = some (.int .i64 8) := zZ.out.cell 0
 have a1 : Z.cell? ⟨w.heap.size + 1, 1, none⟩ = some (.int .i64 kt) := qZ.out.cell 1
 have c1 : Z.cell? ⟨w.heap.size + 2, 1, none⟩ = some (.int .i64 kt) := zZ.out.cell 1
 have a2 : Z.cell? ⟨w.heap.size + 1, 2, none⟩ = some (.int .u16 ki) := qZ.out.cell 2
 have c2 : Z.cell? ⟨w.heap.size + 2, 2, none⟩ = some (.int .u16 ki) := zZ.out.cell 2
 have a3 : Z.cell? ⟨w.heap.size + 1, 3, none⟩ = some (.int .i64 tt) := qZ.out.cell 3
 have c3 : Z.cell? ⟨w.heap.size + 2, 3, none⟩ = some (.int .i64 tt) := zZ.out.cell 3
 have a4 : Z.cell? ⟨w.heap.size + 1, 4, none⟩ = some (.int .u16 ti) := qZ.out.cell 4
 have c4 : Z.cell? ⟨w.heap.size + 2, 4, none⟩ = some (.int .u16 ti) := zZ.out.cell 4
 have a5 : Z.cell? ⟨w.heap.size + 1, 5, none⟩ = some (.int .i64 qv) := qZ.out.cell 5
 have c5 : Z.cell? ⟨w.heap.size + 2, 5, none⟩ = some (.int .i64 qv) := zZ.out.cell 5
 have a6 : Z.cell? ⟨w.heap.size + 1, 6, none⟩ = some (.string qs) := qZ.out.cell 6
 have c6 : Z.cell? ⟨w.heap.size + 2, 6, none⟩ = some (.string ⟨#[]⟩) := zZ.out.cell 6
 have a7 : Z.cell? ⟨w.heap.size + 1, 7, none⟩ = some (.int .i64 qn) := qZ.out.cell 7
 have c7 : Z.cell? ⟨w.heap.size + 2, 7, none⟩ = some (.int .i64 0) := zZ.out.cell 7
 have heq := fun u => eq_req u 8 kt ki tt ti qv qs qn 8 kt ki tt ti qv ⟨#[]⟩ 0
 obtain ⟨EQ, hEQ⟩ : ∃ b, zReq (othR ⟨8, ⟨kt, ki⟩, ⟨tt, ti⟩, qv, qs, qn⟩) = b := ⟨_, rfl⟩
 rw [want_8, hEQ] at heq
 have hrq : reqB bs ⟨8, ⟨kt, ki⟩, ⟨tt, ti⟩, qv, qs, qn⟩ = (EQ && cntB bs ⟨8, ⟨kt, ki⟩, ⟨tt, ti⟩, qv, qs, qn⟩) := by unfold reqB; rw [hEQ]
 have hno : Hid (EQ = true → qs.size = 0) := fun e => zReq_note (hEQ.trans e)
 have hcn : cntB bs ⟨8, ⟨kt, ki⟩, ⟨tt, ti⟩, qv, qs, qn⟩ = (keyB bs ⟨kt, ki⟩ && (keyB bs ⟨tt, ti⟩ && (!eqK ⟨tt, ti⟩ ⟨kt, ki⟩ && decide (0 ≤ qv)))) := rfl
 have hek := fun u => eq_key u kt ki tt ti
 obtain ⟨B1, hB1⟩ : ∃ b, eqK ⟨kt, ki⟩ ⟨tt, ti⟩ = b := ⟨_, rfl⟩
 have hB2 : eqK ⟨tt, ti⟩ ⟨kt, ki⟩ = B1 := by rw [← hB1, Bool.eq_iff_iff, eqK_iff, eqK_iff]; exact eq_comm
 rw [hB1] at hek
 rw [hrq, hcn, key_bool hS, key_bool hS, hB2]
 clear hrq hEQ hcn hS hB1 hB2
 cases B1 with
 | true =>
   have hr : (EQ && (keyE bs ⟨kt, ki⟩ == 0 && (keyE bs ⟨tt, ti⟩ == 0 && (!true && decide (0 ≤ qv))))) = false := by simp
   rw [hr]
   clear hr heq
   go_enter Try.func15, Try.ntmps15
   go_wp2
   go_ret
   exact ⟨rfl, bZ.out⟩
 | false =>
   by_cases h0 : qv < 0
   · have hr : (EQ && (keyE bs ⟨kt, ki⟩ == 0 && (keyE bs ⟨tt, ti⟩ == 0 && (!false && decide (0 ≤ qv))))) = false := by rw [decide_eq_false (by omega)]; simp
     rw [hr]
     clear hr heq
     go_enter Try.func15, Try.ntmps15
     go_wp2
     go_ret
     exact ⟨rfl, bZ.out⟩
   · rw [decide_eq_true (show 0 ≤ qv by omega)]
     have heq' := Lib.hid heq
     clear heq
     obtain ⟨kb, hkb⟩ : ∃ x, keyE bs ⟨tt, ti⟩ = x := ⟨_, rfl⟩
     have hkc := keyError_any tq tn tc bs tt ti Z hl'.out
     rw [hkb] at hkc ⊢
     have hkc := Lib.hid hkc
     obtain ⟨ka, hka⟩ : ∃ x, keyE bs ⟨kt, ki⟩ = x := ⟨_, rfl⟩
     have hkd : Hid (∀ u, Calls Try.prog 40 #[.agg #[.slice tq tn tc], .agg #[.int .i64 kt, .int .u16 ki]] u (fun e w' => e = .returned (.int .i64 ka) ∧ Below u.heap.size u w')) := by
      intro u
      rw [← hka]
      exact keyError_any tq tn tc bs kt ki u hl'.out
     rw [hka]
     clear hka hkb
     by_cases hb0 : kb = 0
     · subst hb0
       cases EQ with
       | false =>
         have hr : (false && (ka == 0 && ((0 : Int) == 0 && (!false && true)))) = false := rfl
         rw [hr]
         go_enter Try.func15, Try.ntmps15
         go_wp2_with fail
         try clear y0 y0_ x0 f0 a0 c0 y1_ x1 f1 a1 c1 y2_ x2 f2 a2 c2 y3_ x3 f3 a3 c3 y4_ x4 f4 a4 c4 y5_ x5 f5 a5 c5 y6_ x6 f6 a6 c6 y7_ x7 f7 a7 c7 s0 hV hW hZ
         clear hek h0
         refine hkc.out.mono ?_
         rintro e u1 ⟨rfl, hb⟩
         have b1 := Lib.hid (bZ.out.trans (hb.mono bZ.out.size))
         have q1 := Lib.hid (qZ.out.below hb)
         have z1 := Lib.hid (zZ.out.below hb)
         have s1 := Lib.hid (sZ.out.below hb)
         clear hb qZ zZ sZ hkc
         have s0 : u1.cell? ⟨w.heap.size, 0, none⟩ = some (.slice tq tn tc) := s1.out.cell 0
         have a0 : u1.cell? ⟨w.heap.size + 1, 0, none⟩ = some (.int .i64 8) := q1.out.cell 0
         have c0 : u1.cell? ⟨w.heap.size + 2, 0, none⟩ = some (.int .i64 8) := z1.out.cell 0
         have a1 : u1.cell? ⟨w.heap.size + 1, 1, none⟩ = some (.int .i64 kt) := q1.out.cell 1
         have c1 : u1.cell? ⟨w.heap.size + 2, 1, none⟩ = some (.int .i64 kt) := z1.out.cell 1
         have a2 : u1.cell? ⟨w.heap.size + 1, 2, none⟩ = some (.int .u16 ki) := q1.out.cell 2
         have c2 : u1.cell? ⟨w.heap.size + 2, 2, none⟩ = some (.int .u16 ki) := z1.out.cell 2
         have a3 : u1.cell? ⟨w.heap.size + 1, 3, none⟩ = some (.int .i64 tt) := q1.out.cell 3
         have c3 : u1.cell? ⟨w.heap.size + 2, 3, none⟩ = some (.int .i64 tt) := z1.out.cell 3
         have a4 : u1.cell? ⟨w.heap.size + 1, 4, none⟩ = some (.int .u16 ti) := q1.out.cell 4
         have c4 : u1.cell? ⟨w.heap.size + 2, 4, none⟩ = some (.int .u16 ti) := z1.out.cell 4
         have a5 : u1.cell? ⟨w.heap.size + 1, 5, none⟩ = some (.int .i64 qv) := q1.out.cell 5
         have c5 : u1.cell? ⟨w.heap.size + 2, 5, none⟩ = some (.int .i64 qv) := z1.out.cell 5
         have a6 : u1.cell? ⟨w.heap.size + 1, 6, none⟩ = some (.string qs) := q1.out.cell 6
         have c6 : u1.cell? ⟨w.heap.size + 2, 6, none⟩ = some (.string ⟨#[]⟩) := z1.out.cell 6
         have a7 : u1.cell? ⟨w.heap.size + 1, 7, none⟩ = some (.int .i64 qn) := q1.out.cell 7
         have c7 : u1.cell? ⟨w.heap.size + 2, 7, none⟩ = some (.int .i64 0) := z1.out.cell 7
         have heq := heq'.out
         go_wp2
         go_ret
         exact ⟨rfl, b1.out⟩
       | true =>
         have hs0 := Lib.hid (hno.out rfl)
         clear hno
         by_cases ha0 : ka = 0
         · subst ha0
           go_enter Try.func15, Try.ntmps15
           go_wp2_with fail
           try clear y0 y0_ x0 f0 a0 c0 y1_ x1 f1 a1 c1 y2_ x2 f2 a2 c2 y3_ x3 f3 a3 c3 y4_ x4 f4 a4 c4 y5_ x5 f5 a5 c5 y6_ x6 f6 a6 c6 y7_ x7 f7 a7 c7 s0 hV hW hZ
           clear hek h0
           refine hkc.out.mono ?_
           rintro e u1 ⟨rfl, hb⟩
           have b1 := Lib.hid (bZ.out.trans (hb.mono bZ.out.size))
           have q1 := Lib.hid (qZ.out.below hb)
           have z1 := Lib.hid (zZ.out.below hb)
           have s1 := Lib.hid (sZ.out.below hb)
           clear hb qZ zZ sZ hkc
           have s0 : u1.cell? ⟨w.heap.size, 0, none⟩ = some (.slice tq tn tc) := s1.out.cell 0
           have a0 : u1.cell? ⟨w.heap.size + 1, 0, none⟩ = some (.int .i64 8) := q1.out.cell 0
           have c0 : u1.cell? ⟨w.heap.size + 2, 0, none⟩ = some (.int .i64 8) := z1.out.cell 0
           have a1 : u1.cell? ⟨w.heap.size + 1, 1, none⟩ = some (.int .i64 kt) := q1.out.cell 1
           have c1 : u1.cell? ⟨w.heap.size + 2, 1, none⟩ = some (.int .i64 kt) := z1.out.cell 1
           have a2 : u1.cell? ⟨w.heap.size + 1, 2, none⟩ = some (.int .u16 ki) := q1.out.cell 2
           have c2 : u1.cell? ⟨w.heap.size + 2, 2, none⟩ = some (.int .u16 ki) := z1.out.cell 2
           have a3 : u1.cell? ⟨w.heap.size + 1, 3, none⟩ = some (.int .i64 tt) := q1.out.cell 3
           have c3 : u1.cell? ⟨w.heap.size + 2, 3, none⟩ = some (.int .i64 tt) := z1.out.cell 3
           have a4 : u1.cell? ⟨w.heap.size + 1, 4, none⟩ = some (.int .u16 ti) := q1.out.cell 4
           have c4 : u1.cell? ⟨w.heap.size + 2, 4, none⟩ = some (.int .u16 ti) := z1.out.cell 4
           have a5 : u1.cell? ⟨w.heap.size + 1, 5, none⟩ = some (.int .i64 qv) := q1.out.cell 5
           have c5 : u1.cell? ⟨w.heap.size + 2, 5, none⟩ = some (.int .i64 qv) := z1.out.cell 5
           have a6 : u1.cell? ⟨w.heap.size + 1, 6, none⟩ = some (.string qs) := q1.out.cell 6
           have c6 : u1.cell? ⟨w.heap.size + 2, 6, none⟩ = some (.string ⟨#[]⟩) := z1.out.cell 6
           have a7 : u1.cell? ⟨w.heap.size + 1, 7, none⟩ = some (.int .i64 qn) := q1.out.cell 7
           have c7 : u1.cell? ⟨w.heap.size + 2, 7, none⟩ = some (.int .i64 0) := z1.out.cell 7
           have heq := heq'.out
           go_wp2_with fail
           try clear a0 c0 a1 c1 a2 c2 a3 c3 a4 c4 a5 c5 a6 c6 a7 c7 s0
           clear heq
           refine (hkd.out u1).mono ?_
           rintro e u2 ⟨rfl, hb⟩
           have b2 := Lib.hid (b1.out.trans (hb.mono b1.out.size))
           have y6 : u2.cell? ⟨w.heap.size + 1, 6, none⟩ = some (.string qs) := (q1.out.below hb).cell 6
           clear hb hkd
           have n8 : ((qs.size : Int) ≤ 8) := by have := hs0.out; omega
           go_wp2
           go_ret
           exact ⟨rfl, b2.out⟩
         · have d0 : (ka == 0) = false := by simpa using ha0
           rw [d0]
           clear ha0
           go_enter Try.func15, Try.ntmps15
           go_wp2_with fail
           try clear y0 y0_ x0 f0 a0 c0 y1_ x1 f1 a1 c1 y2_ x2 f2 a2 c2 y3_ x3 f3 a3 c3 y4_ x4 f4 a4 c4 y5_ x5 f5 a5 c5 y6_ x6 f6 a6 c6 y7_ x7 f7 a7 c7 s0 hV hW hZ
           clear hek h0
           refine hkc.out.mono ?_
           rintro e u1 ⟨rfl, hb⟩
           have b1 := Lib.hid (bZ.out.trans (hb.mono bZ.out.size))
           have q1 := Lib.hid (qZ.out.below hb)
           have z1 := Lib.hid (zZ.out.below hb)
           have s1 := Lib.hid (sZ.out.below hb)
           clear hb qZ zZ sZ hkc
           have s0 : u1.cell? ⟨w.heap.size, 0, none⟩ = some (.slice tq tn tc) := s1.out.cell 0
           have a0 : u1.cell? ⟨w.heap.size + 1, 0, none⟩ = some (.int .i64 8) := q1.out.cell 0
           have c0 : u1.cell? ⟨w.heap.size + 2, 0, none⟩ = some (.int .i64 8) := z1.out.cell 0
           have a1 : u1.cell? ⟨w.heap.size + 1, 1, none⟩ = some (.int .i64 kt) := q1.out.cell 1
           have c1 : u1.cell? ⟨w.heap.size + 2, 1, none⟩ = some (.int .i64 kt) := z1.out.cell 1
           have a2 : u1.cell? ⟨w.heap.size + 1, 2, none⟩ = some (.int .u16 ki) := q1.out.cell 2
           have c2 : u1.cell? ⟨w.heap.size + 2, 2, none⟩ = some (.int .u16 ki) := z1.out.cell 2
           have a3 : u1.cell? ⟨w.heap.size + 1, 3, none⟩ = some (.int .i64 tt) := q1.out.cell 3
           have c3 : u1.cell? ⟨w.heap.size + 2, 3, none⟩ = some (.int .i64 tt) := z1.out.cell 3
           have a4 : u1.cell? ⟨w.heap.size + 1, 4, none⟩ = some (.int .u16 ti) := q1.out.cell 4
           have c4 : u1.cell? ⟨w.heap.size + 2, 4, none⟩ = some (.int .u16 ti) := z1.out.cell 4
           have a5 : u1.cell? ⟨w.heap.size + 1, 5, none⟩ = some (.int .i64 qv) := q1.out.cell 5
           have c5 : u1.cell? ⟨w.heap.size + 2, 5, none⟩ = some (.int .i64 qv) := z1.out.cell 5
           have a6 : u1.cell? ⟨w.heap.size + 1, 6, none⟩ = some (.string qs) := q1.out.cell 6
           have c6 : u1.cell? ⟨w.heap.size + 2, 6, none⟩ = some (.string ⟨#[]⟩) := z1.out.cell 6
           have a7 : u1.cell? ⟨w.heap.size + 1, 7, none⟩ = some (.int .i64 qn) := q1.out.cell 7
           have c7 : u1.cell? ⟨w.heap.size + 2, 7, none⟩ = some (.int .i64 0) := z1.out.cell 7
           have heq := heq'.out
           go_wp2_with fail
           try clear a0 c0 a1 c1 a2 c2 a3 c3 a4 c4 a5 c5 a6 c6 a7 c7 s0
           clear heq
           refine (hkd.out u1).mono ?_
           rintro e u2 ⟨rfl, hb⟩
           have b2 := Lib.hid (b1.out.trans (hb.mono b1.out.size))
           have y6 : u2.cell? ⟨w.heap.size + 1, 6, none⟩ = some (.string qs) := (q1.out.below hb).cell 6
           clear hb hkd
           go_wp2
           go_ret
           exact ⟨rfl, b2.out⟩
     · have d0 : (kb == 0) = false := by simpa using hb0
       have d1 : (kb != 0) = true := by simpa using hb0
       have hr : (EQ && (ka == 0 && (kb == 0 && (!false && true)))) = false := by rw [d0]; simp
       rw [hr]
       clear hb0 hr
       go_enter Try.func15, Try.ntmps15
       go_wp2_with fail
       try clear y0 y0_ x0 f0 a0 c0 y1_ x1 f1 a1 c1 y2_ x2 f2 a2 c2 y3_ x3 f3 a3 c3 y4_ x4 f4 a4 c4 y5_ x5 f5 a5 c5 y6_ x6 f6 a6 c6 y7_ x7 f7 a7 c7 s0 hV hW hZ
       clear hek h0
       refine hkc.out.mono ?_
       rintro e u1 ⟨rfl, hb⟩
       have b1 := Lib.hid (bZ.out.trans (hb.mono bZ.out.size))
       have q1 := Lib.hid (qZ.out.below hb)
       have z1 := Lib.hid (zZ.out.below hb)
       have s1 := Lib.hid (sZ.out.below hb)
       clear hb qZ zZ sZ hkc
       have s0 : u1.cell? ⟨w.heap.size, 0, none⟩ = some (.slice tq tn tc) := s1.out.cell 0
       have a0 : u1.cell? ⟨w.heap.size + 1, 0, none⟩ = some (.int .i64 8) := q1.out.cell 0
       have c0 : u1.cell? ⟨w.heap.size + 2, 0, none⟩ = some (.int .i64 8) := z1.out.cell 0
       have a1 : u1.cell? ⟨w.heap.size + 1, 1, none⟩ = some (.int .i64 kt) := q1.out.cell 1
       have c1 : u1.cell? ⟨w.heap.size + 2, 1, none⟩ = some (.int .i64 kt) := z1.out.cell 1
       have a2 : u1.cell? ⟨w.heap.size + 1, 2, none⟩ = some (.int .u16 ki) := q1.out.cell 2
       have c2 : u1.cell? ⟨w.heap.size + 2, 2, none⟩ = some (.int .u16 ki) := z1.out.cell 2
       have a3 : u1.cell? ⟨w.heap.size + 1, 3, none⟩ = some (.int .i64 tt) := q1.out.cell 3
       have c3 : u1.cell? ⟨w.heap.size + 2, 3, none⟩ = some (.int .i64 tt) := z1.out.cell 3
       have a4 : u1.cell? ⟨w.heap.size + 1, 4, none⟩ = some (.int .u16 ti) := q1.out.cell 4
       have c4 : u1.cell? ⟨w.heap.size + 2, 4, none⟩ = some (.int .u16 ti) := z1.out.cell 4
       have a5 : u1.cell? ⟨w.heap.size + 1, 5, none⟩ = some (.int .i64 qv) := q1.out.cell 5
       have c5 : u1.cell? ⟨w.heap.size + 2, 5, none⟩ = some (.int .i64 qv) := z1.out.cell 5
       have a6 : u1.cell? ⟨w.heap.size + 1, 6, none⟩ = some (.string qs) := q1.out.cell 6
       have c6 : u1.cell? ⟨w.heap.size + 2, 6, none⟩ = some (.string ⟨#[]⟩) := z1.out.cell 6
       have a7 : u1.cell? ⟨w.heap.size + 1, 7, none⟩ = some (.int .i64 qn) := q1.out.cell 7
       have c7 : u1.cell? ⟨w.heap.size + 2, 7, none⟩ = some (.int .i64 0) := z1.out.cell 7
       go_wp2
       go_ret
       exact ⟨rfl, b1.out⟩
set_option maxHeartbeats 4000000 in
theorem rrq_no (qk : Int) (kt ki tt ti qv : Int) (qs : ByteArray) (qn : Int) (tq : Option Addr) (tn tc : Nat) (bs : List BdD) (w : World) (h : SchOn w tq tn tc bs) (hk : ¬ (1 ≤ qk ∧ qk ≤ 12)) :
 Calls Try.prog 15 #[.agg #[.slice tq tn tc], .agg #[.int .i64 qk, .int .i64 kt, .int .u16 ki, .int .i64 tt, .int .u16 ti, .int .i64 qv, .string qs, .int .i64 qn]] w (RqPost (reqB bs ⟨qk, ⟨kt, ki⟩, ⟨tt, ti⟩, qv, qs, qn⟩) w) := by
 have hl := h.len
 obtain ⟨W, hW⟩ : ∃ W, (w.alloc (.cells #[.slice tq tn tc] 24)).alloc (.cells #[.int .i64 qk, .int .i64 kt, .int .u16 ki, .int .i64 tt, .int .u16 ti, .int .i64 qv, .string qs, .int .i64 qn] 30) = W := ⟨_, rfl⟩
 have hbx := Lib.hid (two_rowsI (xs := [.slice tq tn tc]) (ys := [.int .i64 qk, .int .i64 kt, .int .u16 ki, .int .i64 tt, .int .u16 ti, .int .i64 qv, .string qs, .int .i64 qn]) hW)
 have y0 : W.cell? ⟨w.heap.size + 1, 0, none⟩ = some (.int .i64 qk) := hbx.out.2.2.1.cell 0
 have hWs : W.heap.size = w.heap.size + 2 := hbx.out.2.2.2
 obtain ⟨V, hV⟩ : ∃ V, W.alloc (.cells #[.int .i64 0, .int .i64 0, .int .u16 0, .int .i64 0, .int .u16 0, .int .i64 0, .string ⟨#[]⟩, .int .i64 0] 30) = V := ⟨_, rfl⟩
 have hbv := Lib.hid (one_rowI (xs := [.int .i64 0, .int .i64 0, .int .u16 0, .int .i64 0, .int .u16 0, .int .i64 0, .string ⟨#[]⟩, .int .i64 0]) hV)
 rw [hWs] at hbv
 have bV := Lib.hid (hbx.out.1.trans ((show Below W.heap.size W V by rw [hWs]; exact hbv.out.1).mono hbx.out.1.size))
 have sV := Lib.hid (hbx.out.2.1.below (show Below W.heap.size W V by rw [hWs]; exact hbv.out.1))
 have qV := Lib.hid (hbx.out.2.2.1.below (show Below W.heap.size W V by rw [hWs]; exact hbv.out.1))
 have zV := Lib.hid hbv.out.2.1
 have hsz : Hid (w.heap.size + 3 ≤ V.heap.size) := by have h1 := hbv.out.2.2; show _ ≤ _; omega
 have y0_ : V.cell? ⟨w.heap.size + 1, 0, none⟩ = some (.int .i64 qk) := qV.out.cell 0
 have x0 : V.cell? ⟨w.heap.size + 2, 0, none⟩ = some (.int .i64 0) := zV.out.cell 0
 have f0 := zV.out.free 0
 have y1_ : V.cell? ⟨w.heap.size + 1, 1, none⟩ = some (.int .i64 kt) := qV.out.cell 1
 have x1 : V.cell? ⟨w.heap.size + 2, 1, none⟩ = some (.int .i64 0) := zV.out.cell 1
 have f1 := zV.out.free 1
 have y2_ : V.cell? ⟨w.heap.size + 1, 2, none⟩ = some (.int .u16 ki) := qV.out.cell 2
 have x2 : V.cell? ⟨w.heap.size + 2, 2, none⟩ = some (.int .u16 0) := zV.out.cell 2
 have f2 := zV.out.free 2
 have y3_ : V.cell? ⟨w.heap.size + 1, 3, none⟩ = some (.int .i64 tt) := qV.out.cell 3
 have x3 : V.cell? ⟨w.heap.size + 2, 3, none⟩ = some (.int .i64 0) := zV.out.cell 3
 have f3 := zV.out.free 3
 have y4_ : V.cell? ⟨w.heap.size + 1, 4, none⟩ = some (.int .u16 ti) := qV.out.cell 4
 have x4 : V.cell? ⟨w.heap.size + 2, 4, none⟩ = some (.int .u16 0) := zV.out.cell 4
 have f4 := zV.out.free 4
 have y5_ : V.cell? ⟨w.heap.size + 1, 5, none⟩ = some (.int .i64 qv) := qV.out.cell 5
 have x5 : V.cell? ⟨w.heap.size + 2, 5, none⟩ = some (.int .i64 0) := zV.out.cell 5
 have f5 := zV.out.free 5
 have y6_ : V.cell? ⟨w.heap.size + 1, 6, none⟩ = some (.string qs) := qV.out.cell 6
 have x6 : V.cell? ⟨w.heap.size + 2, 6, none⟩ = some (.string ⟨#[]⟩) := zV.out.cell 6
 have f6 := zV.out.free 6
 have y7_ : V.cell? ⟨w.heap.size + 1, 7, none⟩ = some (.int .i64 qn) := qV.out.cell 7
 have x7 : V.cell? ⟨w.heap.size + 2, 7, none⟩ = some (.int .i64 0) := zV.out.cell 7
 have f7 := zV.out.free 7
 have n1 : (qk == 1) = false := by simp; omega
 have n2 : (qk == 2) = false := by simp; omega
 have n3 : (qk == 3) = false := by simp; omega
 have n4 : (qk == 4) = false := by simp; omega
 have n5 : (qk == 5) = false := by simp; omega
 have n6 : (qk == 6) = false := by simp; omega
 have n7 : (qk == 7) = false := by simp; omega
 have n8 : (qk == 8) = false := by simp; omega
 have n9 : (qk == 9) = false := by simp; omega
 have n10 : (qk == 10) = false := by simp; omega
 have n11 : (qk == 11) = false := by simp; omega
 have n12 : (qk == 12) = false := by simp; omega
 have hrq : reqB bs ⟨qk, ⟨kt, ki⟩, ⟨tt, ti⟩, qv, qs, qn⟩ = false := by
  cases h1 : reqB bs ⟨qk, ⟨kt, ki⟩, ⟨tt, ti⟩, qv, qs, qn⟩ with
  | false => rfl
  | true => exact absurd (reqB_kind h1) hk
 rw [hrq]
 have hB : Hid (∀ Z, ((((((((V.setCell ⟨w.heap.size + 2, 0, none⟩ (.int .i64 qk)).setCell ⟨w.heap.size + 2, 1, none⟩ (.int .i64 0)).setCell ⟨w.heap.size + 2, 2, none⟩ (.int .u16 0)).setCell ⟨w.heap.size + 2, 3, none⟩ (.int .i64 0)).setCell ⟨w.heap.size + 2, 4, none⟩ (.int .u16 0)).setCell ⟨w.heap.size + 2, 5, none⟩ (.int .i64 0)).setCell ⟨w.heap.size + 2, 6, none⟩ (.string ⟨#[]⟩)).setCell ⟨w.heap.size + 2, 7, none⟩ (.int .i64 0)) = Z → Below w.heap.size w Z) := by
  rintro Z rfl
  exact (bset (bset (bset (bset (bset (bset (bset (bset ⟨bV.out, by have := hsz.out; omega⟩ (Nat.le_add_right _ _)) (Nat.le_add_right _ _)) (Nat.le_add_right _ _)) (Nat.le_add_right _ _)) (Nat.le_add_right _ _)) (Nat.le_add_right _ _)) (Nat.le_add_right _ _)) (Nat.le_add_right _ _)).1
 clear hk hrq hbx hbv hl h hsz qV sV zV bV
 go_enter Try.func15, Try.ntmps15
 go_wp2
 go_ret
 exact ⟨rfl, hB.out _ rfl⟩
theorem rightReq_any (qk kt ki tt ti qv : Int) (qs : ByteArray) (qn : Int) (tq : Option Addr) (tn tc : Nat) (bs : List BdD) (w : World) (h : SchOn w tq tn tc bs) (hS : okS bs = true) (hqs : qs.size ≤ maxLen) :
 Calls Try.prog 15 #[.agg #[.slice tq tn tc], .agg #[.int .i64 qk, .int .i64 kt, .int .u16 ki, .int .i64 tt, .int .u16 ti, .int .i64 qv, .string qs, .int .i64 qn]] w (RqPost (reqB bs ⟨qk, ⟨kt, ki⟩, ⟨tt, ti⟩, qv, qs, qn⟩) w) := by
 by_cases hk : 1 ≤ qk ∧ qk ≤ 12
 · have hc : qk = 1 ∨ qk = 2 ∨ qk = 3 ∨ qk = 4 ∨ qk = 5 ∨ qk = 6 ∨ qk = 7 ∨ qk = 8 ∨ qk = 9 ∨ qk = 10 ∨ qk = 11 ∨ qk = 12 := by omega
   clear hk
   rcases hc with rfl | rfl | rfl | rfl | rfl | rfl | rfl | rfl | rfl | rfl | rfl | rfl
   · exact rrq_1 kt ki tt ti qv qs qn tq tn tc bs w h hS
   · exact rrq_2 kt ki tt ti qv qs qn tq tn tc bs w h hS
   · exact rrq_3 kt ki tt ti qv qs qn tq tn tc bs w h hS hqs
   · exact rrq_4 kt ki tt ti qv qs qn tq tn tc bs w h hS
   · exact rrq_5 kt ki tt ti qv qs qn tq tn tc bs w h hS hqs
   · exact rrq_6 kt ki tt ti qv qs qn tq tn tc bs w h hS
   · exact rrq_7 kt ki tt ti qv qs qn tq tn tc bs w h hS
   · exact rrq_8 kt ki tt ti qv qs qn tq tn tc bs w h hS
   · exact rrq_9 kt ki tt ti qv qs qn tq tn tc bs w h
   · exact rrq_10 kt ki tt ti qv qs qn tq tn tc bs w h
   · exact rrq_11 kt ki tt ti qv qs qn tq tn tc bs w h
   · exact rrq_12 kt ki tt ti qv qs qn tq tn tc bs w h
 · exact rrq_no qk kt ki tt ti qv qs qn tq tn tc bs w h hk
end Go.Proofs.Ytkdkncbccofpdaa
