/- Step of the document's ideal. -/
import Derived.Test.YtkdkncbccofpdaaQ24
import Derived.Test.YtkdkncbccofpdaaQ21
namespace Go.Proofs.Ytkdkncbccofpdaa
open Go.ChangeShapes Go.WideShapes Go.ChangeAt Go.RowKit Go.Deep Go.Joins
set_option maxRecDepth 100000

theorem add_block (a : Addr) (k : Nat) : (a.add k).block = a.block := by unfold Addr.add; split <;> rfl
/-- rows lie apart from a block without keys -/
theorem RowsOn.past {T : TypeId} {u u' : World} {q : Option Addr} {n c g : Nat} {l : List RowD} {cs : List Value} (h : RowsOn u q n c l) (hr : RowV T u g cs) (hno : ∀ (i : Nat) (v : Int), cs[i]? = some (Value.int .u16 v) → False) (hg : u.grownBy u' (some g)) : RowsOn u' q n c l :=
  ⟨h.len, h.le, h.cap, h.nil, fun i r hi => by
    obtain ⟨a, ha, hc⟩ := h.get i r hi
    refine ⟨a, ha, fun j x hj => hg.cell (hc j x hj) (fun e => ?_)⟩
    have e1 : a.block = g := by
      have h1 := Option.some.inj e
      rwa [add_block, add_block] at h1
    have h2 : u.cell? ⟨(a.add (i * 4)).block, (a.add (i * 4)).off + 1, none⟩ = some (.int .u16 r.key.id) := hc 1 _ rfl
    rw [add_block, e1, hr.cell] at h2
    exact hno _ _ h2, h.ok⟩
theorem no_ser (a b c d : Option Addr) (e f g h i j k l : Nat) (o : Bool) : ∀ (x : Nat) (v : Int), ([Value.slice a e f, .slice b g h, .slice c i j, .slice d k l, .bool o] : List Value)[x]? = some (Value.int .u16 v) → False := by
  intro x v hx
  match x, hx with
  | 0, hx => cases hx
  | 1, hx => cases hx
  | 2, hx => cases hx
  | 3, hx => cases hx
  | 4, hx => cases hx
  | n + 5, hx => simp at hx
theorem no_ans (a b : Int) (q : Option Addr) (n c : Nat) : ∀ (x : Nat) (v : Int), ([Value.int .i64 a, .slice q n c, .int .i64 b] : List Value)[x]? = some (Value.int .u16 v) → False := by
  intro x v hx
  match x, hx with
  | 0, hx => cases hx
  | 1, hx => cases hx
  | 2, hx => cases hx
  | n + 3, hx => simp at hx
section
variable {P : Program} {ops : Array Oper} {Q : Exit → Act → World → Prop} {md : Region.Mode} {s : Nat} {X : World → Prop}
/-- two operations that may come in either order, ahead of the store -/
theorem x_two {i j k : Nat} {l : Array Bool} {a : Act} {w : World} (hr : Region.ready md ops l = [i, j])
    (h1 : wpOp P ops Q i (fun a' w' => ((l.setIfInBounds i true).getD s true = false → X w') ∧ wpAnyX P md ops Q s X k (l.setIfInBounds i true) a' w') a w)
    (h2 : wpOp P ops Q j (fun a' w' => ((l.setIfInBounds j true).getD s true = false → X w') ∧ wpAnyX P md ops Q s X k (l.setIfInBounds j true) a' w') a w) : wpAnyX P md ops Q s X (k + 1) l a w := by
  refine x_all hr (by simp) (fun n hn => ?_)
  rcases List.mem_cons.1 hn with rfl | hn
  · exact h1
  · rw [List.mem_singleton.1 hn]; exact h2
end
/-- what a request to rows does to a transaction -/
theorem step_rows {x : SerD} {q : ReqD} (hk : 1 ≤ q.k ∧ q.k ≤ 8) : stepW x q = ({ x with rows := (stepW (aloneS x.bs x.rows) q).1.rows }, (stepW (aloneS x.bs x.rows) q).2) := by
  have lay : ∀ p : Int × List RowD, layW x p = ({ x with rows := (layW (aloneS x.bs x.rows) p).1.rows }, (layW (aloneS x.bs x.rows) p).2) := by
    intro p
    unfold layW
    split <;> rfl
  obtain ⟨qk, key, to, val, note, n⟩ := q
  simp only at hk
  have hc : qk = 1 ∨ qk = 2 ∨ qk = 3 ∨ qk = 4 ∨ qk = 5 ∨ qk = 6 ∨ qk = 7 ∨ qk = 8 := by omega
  clear hk
  rcases hc with rfl | rfl | rfl | rfl | rfl | rfl | rfl | rfl
  · show readW x key = ({ x with rows := (readW (aloneS x.bs x.rows) key).1.rows }, (readW (aloneS x.bs x.rows) key).2)
    unfold readW
    rw [show (aloneS x.bs x.rows).rows = x.rows from rfl]
    cases findK x.rows key with
    | none => rfl
    | some i =>
      simp only
      cases x.rows[i]? <;> rfl
  · rfl
  · show insW x key val note = ({ x with rows := (insW (aloneS x.bs x.rows) key val note).1.rows }, (insW (aloneS x.bs x.rows) key val note).2)
    unfold insW
    rw [show (aloneS x.bs x.rows).rows = x.rows from rfl, show (aloneS x.bs x.rows).bs = x.bs from rfl]
    split
    · split
      · rfl
      · exact lay _
    · rfl
  · exact lay _
  · exact lay _
  · show setW x key val = ({ x with rows := (setW (aloneS x.bs x.rows) key val).1.rows }, (setW (aloneS x.bs x.rows) key val).2)
    unfold setW
    rw [show (aloneS x.bs x.rows).rows = x.rows from rfl, show (aloneS x.bs x.rows).bs = x.bs from rfl]
    split
    · exact lay _
    · rfl
  · exact lay _
  · show movW x key to val = ({ x with rows := (movW (aloneS x.bs x.rows) key to val).1.rows }, (movW (aloneS x.bs x.rows) key to val).2)
    unfold movW
    rw [show movP (aloneS x.bs x.rows) key to val = movP x key to val from rfl, show (aloneS x.bs x.rows).rows = x.rows from rfl]
    split
    · exact lay _
    · rfl
def SsPost (r : SerD × AnsD) (w : World) (e : Ending) (w' : World) : Prop :=
  ∃ (v : SV) (a : AV), e = .returned (.tuple #[.agg v.cells.toArray, .agg a.cells.toArray]) ∧ v.On w' r.1 ∧ a.e = r.2.e ∧ a.k = r.2.n ∧ RowsOn w' a.q a.n a.c r.2.rows ∧ Below w.heap.size w w'
set_option maxHeartbeats 4000000 in
theorem sd_11 (tq : Option Addr) (tn tc : Nat) (rq : Option Addr) (rn rc : Nat) (bq : Option Addr) (bn bc : Nat) (mq : Option Addr) (mn mc : Nat) (o : Bool) (kt ki tt ti qv : Int) (qs : ByteArray) (qn : Int) (x : SerD) (w : World) (hx : (⟨tq, tn, tc, rq, rn, rc, bq, bn, bc, mq, mn, mc, o⟩ : SV).On w x) (hs : serB x = true) (hq : ReqOk ⟨11, ⟨kt, ki⟩, ⟨tt, ti⟩, qv, qs, qn⟩) (hrq : reqB x.bs ⟨11, ⟨kt, ki⟩, ⟨tt, ti⟩, qv, qs, qn⟩ = true) :
    Calls Try.prog 25 #[.agg #[.slice tq tn tc, .slice rq rn rc, .slice bq bn bc, .slice mq mn mc, .bool o], .agg #[.int .i64 11, .int .i64 kt, .int .u16 ki, .int .i64 tt, .int .u16 ti, .int .i64 qv, .string qs, .int .i64 qn]] w (SsPost (stepW x ⟨11, ⟨kt, ki⟩, ⟨tt, ti⟩, qv, qs, qn⟩) w) := by
  obtain ⟨W, hW⟩ : ∃ W, (((w.alloc (.cells #[.slice tq tn tc, .slice rq rn rc, .slice bq bn bc, .slice mq mn mc, .bool o] 46)).alloc (.cells #[.int .i64 11, .int .i64 kt, .int .u16 ki, .int .i64 tt, .int .u16 ti, .int .i64 qv, .string qs, .int .i64 qn] 30)).alloc (.cells #[.slice none 0 0, .slice none 0 0, .slice none 0 0, .slice none 0 0, .bool false] 46)).alloc (.cells #[.int .i64 0, .slice none 0 0, .int .i64 0] 35) = W := ⟨_, rfl⟩
  have hbx := Lib.hid (four_rowsI (xs := [.slice tq tn tc, .slice rq rn rc, .slice bq bn bc, .slice mq mn mc, .bool o]) (ys := [.int .i64 11, .int .i64 kt, .int .u16 ki, .int .i64 tt, .int .u16 ti, .int .i64 qv, .string qs, .int .i64 qn]) (zs := [.slice none 0 0, .slice none 0 0, .slice none 0 0, .slice none 0 0, .bool false]) (us := [.int .i64 0, .slice none 0 0, .int .i64 0]) hW)
  have b0 := Lib.hid hbx.out.1
  have s0 := Lib.hid hbx.out.2.1
  have q0 := Lib.hid hbx.out.2.2.1
  have z0 := Lib.hid hbx.out.2.2.2.1
  have a0 := Lib.hid hbx.out.2.2.2.2.1
  have hsz := Lib.hid hbx.out.2.2.2.2.2
  have hx' := Lib.hid hx
  have hs' := Lib.hid hs
  have hq' := Lib.hid hq
  have hrq' := Lib.hid hrq
  have hmn : x.marks.length = mn := hx.marks.len
  have hm8 : mn ≤ 8 := by rw [← hmn]; exact serB_marks hs
  have hmn' := Lib.hid hmn
  clear hx hs hq hrq hbx hmn
  have y0 : W.cell? ⟨w.heap.size + 1, 0, none⟩ = some (.int .i64 11) := q0.out.cell 0
  have sc0 : W.cell? ⟨w.heap.size, 0, none⟩ = some (.slice tq tn tc) := s0.out.cell 0
  have sf0 := s0.out.free 0
  have sc1 : W.cell? ⟨w.heap.size, 1, none⟩ = some (.slice rq rn rc) := s0.out.cell 1
  have sf1 := s0.out.free 1
  have sc2 : W.cell? ⟨w.heap.size, 2, none⟩ = some (.slice bq bn bc) := s0.out.cell 2
  have sf2 := s0.out.free 2
  have sc3 : W.cell? ⟨w.heap.size, 3, none⟩ = some (.slice mq mn mc) := s0.out.cell 3
  have sf3 := s0.out.free 3
  have sc4 : W.cell? ⟨w.heap.size, 4, none⟩ = some (.bool o) := s0.out.cell 4
  have sf4 := s0.out.free 4
  have zc0 : W.cell? ⟨w.heap.size + 2, 0, none⟩ = some (.slice none 0 0) := z0.out.cell 0
  have zf0 := z0.out.free 0
  have zc1 : W.cell? ⟨w.heap.size + 2, 1, none⟩ = some (.slice none 0 0) := z0.out.cell 1
  have zf1 := z0.out.free 1
  have zc2 : W.cell? ⟨w.heap.size + 2, 2, none⟩ = some (.slice none 0 0) := z0.out.cell 2
  have zf2 := z0.out.free 2
  have zc3 : W.cell? ⟨w.heap.size + 2, 3, none⟩ = some (.slice none 0 0) := z0.out.cell 3
  have zf3 := z0.out.free 3
  have zc4 : W.cell? ⟨w.heap.size + 2, 4, none⟩ = some (.bool false) := z0.out.cell 4
  have zf4 := z0.out.free 4
  have ac0 : W.cell? ⟨w.heap.size + 3, 0, none⟩ = some (.int .i64 0) := a0.out.cell 0
  have af0 := a0.out.free 0
  have ac1 : W.cell? ⟨w.heap.size + 3, 1, none⟩ = some (.slice none 0 0) := a0.out.cell 1
  have af1 := a0.out.free 1
  have ac2 : W.cell? ⟨w.heap.size + 3, 2, none⟩ = some (.int .i64 0) := a0.out.cell 2
  have af2 := a0.out.free 2
  go_enter Try.func25, Try.ntmps25
  obtain ⟨Z, hZ⟩ : ∃ Z, ((((((((((W.setCell ⟨w.heap.size, 3, none⟩ (.slice none 0 0)).setCell ⟨w.heap.size, 4, none⟩ (.bool true)).setCell ⟨w.heap.size + 2, 0, none⟩ (.slice tq tn tc)).setCell ⟨w.heap.size + 2, 1, none⟩ (.slice rq rn rc)).setCell ⟨w.heap.size + 2, 2, none⟩ (.slice bq bn bc)).setCell ⟨w.heap.size + 2, 3, none⟩ (.slice none 0 0)).setCell ⟨w.heap.size + 2, 4, none⟩ (.bool true)).setCell ⟨w.heap.size + 3, 0, none⟩ (.int .i64 0)).setCell ⟨w.heap.size + 3, 1, none⟩ (.slice none 0 0)).setCell ⟨w.heap.size + 3, 2, none⟩ (.int .i64 0)) = Z := ⟨_, rfl⟩
  have zZ : Hid (RowV 46 Z (w.heap.size + 2) [.slice tq tn tc, .slice rq rn rc, .slice bq bn bc, .slice none 0 0, .bool true]) := by
    show RowV _ _ _ _
    rw [← hZ]
    exact ((((((((((z0.out.kept (setCell_grown _ _ _ _) (by omega)).kept (setCell_grown _ _ _ _) (by omega)).set 0 (.slice tq tn tc)).set 1 (.slice rq rn rc)).set 2 (.slice bq bn bc)).set 3 (.slice none 0 0)).set 4 (.bool true)).kept (setCell_grown _ _ _ _) (by omega)).kept (setCell_grown _ _ _ _) (by omega)).kept (setCell_grown _ _ _ _) (by omega))
  have aZ : Hid (RowV 35 Z (w.heap.size + 3) [.int .i64 0, .slice none 0 0, .int .i64 0]) := by
    show RowV _ _ _ _
    rw [← hZ]
    exact ((((((((((a0.out.kept (setCell_grown _ _ _ _) (by omega)).kept (setCell_grown _ _ _ _) (by omega)).kept (setCell_grown _ _ _ _) (by omega)).kept (setCell_grown _ _ _ _) (by omega)).kept (setCell_grown _ _ _ _) (by omega)).kept (setCell_grown _ _ _ _) (by omega)).kept (setCell_grown _ _ _ _) (by omega)).set 0 (.int .i64 0)).set 1 (.slice none 0 0)).set 2 (.int .i64 0))
  have bZ : Hid (Below w.heap.size w Z) := by
    show Below _ _ _
    rw [← hZ]
    exact (bset (bset (bset (bset (bset (bset (bset (bset (bset (bset ⟨b0.out, by have := hsz.out; have := b0.out.size; omega⟩ (by omega)) (by omega)) (by omega)) (by omega)) (by omega)) (by omega)) (by omega)) (by omega)) (by omega)) (by omega)).1
  go_wp2
  have m0 := zZ.out.cell 0
  have m1 := zZ.out.cell 1
  have m2 := zZ.out.cell 2
  have m3 := zZ.out.cell 3
  have m4 := zZ.out.cell 4
  have n0 := aZ.out.cell 0
  have n1 := aZ.out.cell 1
  have n2 := aZ.out.cell 2
  simp only [List.getElem?_cons_zero, List.getElem?_cons_succ] at m0 m1 m2 m3 m4 n0 n1 n2
  refine bodyPost_ret (v := .tuple #[.agg #[.slice tq tn tc, .slice rq rn rc, .slice bq bn bc, .slice none 0 0, .bool true], .agg #[.int .i64 0, .slice none 0 0, .int .i64 0]]) (by simp [results, Try.results25, go_sem, m0, m1, m2, m3, m4, n0, n1, n2]) rfl ?_
  have hz := hx'.out.below bZ.out (Nat.le_refl _)
  exact ⟨(⟨tq, tn, tc, rq, rn, rc, bq, bn, bc, none, 0, 0, true⟩ : SV), (⟨0, none, 0, 0, 0⟩ : AV), rfl, ⟨hz.sch, hz.sok, hz.rows, hz.begun, MksOn.none_ _, rfl⟩, rfl, rfl, RowsOn.none_ _, bZ.out⟩
set_option maxHeartbeats 4000000 in
theorem sd_12 (tq : Option Addr) (tn tc : Nat) (rq : Option Addr) (rn rc : Nat) (bq : Option Addr) (bn bc : Nat) (mq : Option Addr) (mn mc : Nat) (o : Bool) (kt ki tt ti qv : Int) (qs : ByteArray) (qn : Int) (x : SerD) (w : World) (hx : (⟨tq, tn, tc, rq, rn, rc, bq, bn, bc, mq, mn, mc, o⟩ : SV).On w x) (hs : serB x = true) (hq : ReqOk ⟨12, ⟨kt, ki⟩, ⟨tt, ti⟩, qv, qs, qn⟩) (hrq : reqB x.bs ⟨12, ⟨kt, ki⟩, ⟨tt, ti⟩, qv, qs, qn⟩ = true) :
    Calls Try.prog 25 #[.agg #[.slice tq tn tc, .slice rq rn rc, .slice bq bn bc, .slice mq mn mc, .bool o], .agg #[.int .i64 12, .int .i64 kt, .int .u16 ki, .int .i64 tt, .int .u16 ti, .int .i64 qv, .string qs, .int .i64 qn]] w (SsPost (stepW x ⟨12, ⟨kt, ki⟩, ⟨tt, ti⟩, qv, qs, qn⟩) w) := by
  obtain ⟨W, hW⟩ : ∃ W, (((w.alloc (.cells #[.slice tq tn tc, .slice rq rn rc, .slice bq bn bc, .slice mq mn mc, .bool o] 46)).alloc (.cells #[.int .i64 12, .int .i64 kt, .int .u16 ki, .int .i64 tt, .int .u16 ti, .int .i64 qv, .string qs, .int .i64 qn] 30)).alloc (.cells #[.slice none 0 0, .slice none 0 0, .slice none 0 0, .slice none 0 0, .bool false] 46)).alloc (.cells #[.int .i64 0, .slice none 0 0, .int .i64 0] 35) = W := ⟨_, rfl⟩
  have hbx := Lib.hid (four_rowsI (xs := [.slice tq tn tc, .slice rq rn rc, .slice bq bn bc, .slice mq mn mc, .bool o]) (ys := [.int .i64 12, .int .i64 kt, .int .u16 ki, .int .i64 tt, .int .u16 ti, .int .i64 qv, .string qs, .int .i64 qn]) (zs := [.slice none 0 0, .slice none 0 0, .slice none 0 0, .slice none 0 0, .bool false]) (us := [.int .i64 0, .slice none 0 0, .int .i64 0]) hW)
  have b0 := Lib.hid hbx.out.1
  have s0 := Lib.hid hbx.out.2.1
  have q0 := Lib.hid hbx.out.2.2.1
  have z0 := Lib.hid hbx.out.2.2.2.1
  have a0 := Lib.hid hbx.out.2.2.2.2.1
  have hsz := Lib.hid hbx.out.2.2.2.2.2
  have hx' := Lib.hid hx
  have hs' := Lib.hid hs
  have hq' := Lib.hid hq
  have hrq' := Lib.hid hrq
  have hmn : x.marks.length = mn := hx.marks.len
  have hm8 : mn ≤ 8 := by rw [← hmn]; exact serB_marks hs
  have hmn' := Lib.hid hmn
  clear hx hs hq hrq hbx hmn
  have y0 : W.cell? ⟨w.heap.size + 1, 0, none⟩ = some (.int .i64 12) := q0.out.cell 0
  have sc0 : W.cell? ⟨w.heap.size, 0, none⟩ = some (.slice tq tn tc) := s0.out.cell 0
  have sf0 := s0.out.free 0
  have sc1 : W.cell? ⟨w.heap.size, 1, none⟩ = some (.slice rq rn rc) := s0.out.cell 1
  have sf1 := s0.out.free 1
  have sc2 : W.cell? ⟨w.heap.size, 2, none⟩ = some (.slice bq bn bc) := s0.out.cell 2
  have sf2 := s0.out.free 2
  have sc3 : W.cell? ⟨w.heap.size, 3, none⟩ = some (.slice mq mn mc) := s0.out.cell 3
  have sf3 := s0.out.free 3
  have sc4 : W.cell? ⟨w.heap.size, 4, none⟩ = some (.bool o) := s0.out.cell 4
  have sf4 := s0.out.free 4
  have zc0 : W.cell? ⟨w.heap.size + 2, 0, none⟩ = some (.slice none 0 0) := z0.out.cell 0
  have zf0 := z0.out.free 0
  have zc1 : W.cell? ⟨w.heap.size + 2, 1, none⟩ = some (.slice none 0 0) := z0.out.cell 1
  have zf1 := z0.out.free 1
  have zc2 : W.cell? ⟨w.heap.size + 2, 2, none⟩ = some (.slice none 0 0) := z0.out.cell 2
  have zf2 := z0.out.free 2
  have zc3 : W.cell? ⟨w.heap.size + 2, 3, none⟩ = some (.slice none 0 0) := z0.out.cell 3
  have zf3 := z0.out.free 3
  have zc4 : W.cell? ⟨w.heap.size + 2, 4, none⟩ = some (.bool false) := z0.out.cell 4
  have zf4 := z0.out.free 4
  have ac0 : W.cell? ⟨w.heap.size + 3, 0, none⟩ = some (.int .i64 0) := a0.out.cell 0
  have af0 := a0.out.free 0
  have ac1 : W.cell? ⟨w.heap.size + 3, 1, none⟩ = some (.slice none 0 0) := a0.out.cell 1
  have af1 := a0.out.free 1
  have ac2 : W.cell? ⟨w.heap.size + 3, 2, none⟩ = some (.int .i64 0) := a0.out.cell 2
  have af2 := a0.out.free 2
  go_enter Try.func25, Try.ntmps25
  obtain ⟨Z, hZ⟩ : ∃ Z, (((((((((((W.setCell ⟨w.heap.size, 1, none⟩ (.slice bq bn bc)).setCell ⟨w.heap.size, 3, none⟩ (.slice none 0 0)).setCell ⟨w.heap.size, 4, none⟩ (.bool true)).setCell ⟨w.heap.size + 2, 0, none⟩ (.slice tq tn tc)).setCell ⟨w.heap.size + 2, 1, none⟩ (.slice bq bn bc)).setCell ⟨w.heap.size + 2, 2, none⟩ (.slice bq bn bc)).setCell ⟨w.heap.size + 2, 3, none⟩ (.slice none 0 0)).setCell ⟨w.heap.size + 2, 4, none⟩ (.bool true)).setCell ⟨w.heap.size + 3, 0, none⟩ (.int .i64 0)).setCell ⟨w.heap.size + 3, 1, none⟩ (.slice none 0 0)).setCell ⟨w.heap.size + 3, 2, none⟩ (.int .i64 0)) = Z := ⟨_, rfl⟩
  have zZ : Hid (RowV 46 Z (w.heap.size + 2) [.slice tq tn tc, .slice bq bn bc, .slice bq bn bc, .slice none 0 0, .bool true]) := by
    show RowV _ _ _ _
    rw [← hZ]
    exact (((((((((((z0.out.kept (setCell_grown _ _ _ _) (by omega)).kept (setCell_grown _ _ _ _) (by omega)).kept (setCell_grown _ _ _ _) (by omega)).set 0 (.slice tq tn tc)).set 1 (.slice bq bn bc)).set 2 (.slice bq bn bc)).set 3 (.slice none 0 0)).set 4 (.bool true)).kept (setCell_grown _ _ _ _) (by omega)).kept (setCell_grown _ _ _ _) (by omega)).kept (setCell_grown _ _ _ _) (by omega))
  have aZ : Hid (RowV 35 Z (w.heap.size + 3) [.int .i64 0, .slice none 0 0, .int .i64 0]) := by
    show RowV _ _ _ _
    rw [← hZ]
    exact (((((((((((a0.out.kept (setCell_grown _ _ _ _) (by omega)).kept (setCell_grown _ _ _ _) (by omega)).kept (setCell_grown _ _ _ _) (by omega)).kept (setCell_grown _ _ _ _) (by omega)).kept (setCell_grown _ _ _ _) (by omega)).kept (setCell_grown _ _ _ _) (by omega)).kept (setCell_grown _ _ _ _) (by omega)).kept (setCell_grown _ _ _ _) (by omega)).set 0 (.int .i64 0)).set 1 (.slice none 0 0)).set 2 (.int .i64 0))
  have bZ : Hid (Below w.heap.size w Z) := by
    show Below _ _ _
    rw [← hZ]
    exact (bset (bset (bset (bset (bset (bset (bset (bset (bset (bset (bset ⟨b0.out, by have := hsz.out; have := b0.out.size; omega⟩ (by omega)) (by omega)) (by omega)) (by omega)) (by omega)) (by omega)) (by omega)) (by omega)) (by omega)) (by omega)) (by omega)).1
  go_wp2
  have m0 := zZ.out.cell 0
  have m1 := zZ.out.cell 1
  have m2 := zZ.out.cell 2
  have m3 := zZ.out.cell 3
  have m4 := zZ.out.cell 4
  have n0 := aZ.out.cell 0
  have n1 := aZ.out.cell 1
  have n2 := aZ.out.cell 2
  simp only [List.getElem?_cons_zero, List.getElem?_cons_succ] at m0 m1 m2 m3 m4 n0 n1 n2
  refine bodyPost_ret (v := .tuple #[.agg #[.slice tq tn tc, .slice bq bn bc, .slice bq bn bc, .slice none 0 0, .bool true], .agg #[.int .i64 0, .slice none 0 0, .int .i64 0]]) (by simp [results, Try.results25, go_sem, m0, m1, m2, m3, m4, n0, n1, n2]) rfl ?_
  have hz := hx'.out.below bZ.out (Nat.le_refl _)
  exact ⟨(⟨tq, tn, tc, bq, bn, bc, bq, bn, bc, none, 0, 0, true⟩ : SV), (⟨0, none, 0, 0, 0⟩ : AV), rfl, ⟨hz.sch, hz.sok, hz.begun, hz.begun, MksOn.none_ _, rfl⟩, rfl, rfl, RowsOn.none_ _, bZ.out⟩
set_option maxHeartbeats 4000000 in
theorem sd_9 (tq : Option Addr) (tn tc : Nat) (rq : Option Addr) (rn rc : Nat) (bq : Option Addr) (bn bc : Nat) (mq : Option Addr) (mn mc : Nat) (o : Bool) (kt ki tt ti qv : Int) (qs : ByteArray) (qn : Int) (x : SerD) (w : World) (hx : (⟨tq, tn, tc, rq, rn, rc, bq, bn, bc, mq, mn, mc, o⟩ : SV).On w x) (hs : serB x = true) (hq : ReqOk ⟨9, ⟨kt, ki⟩, ⟨tt, ti⟩, qv, qs, qn⟩) (hrq : reqB x.bs ⟨9, ⟨kt, ki⟩, ⟨tt, ti⟩, qv, qs, qn⟩ = true) :
    Calls Try.prog 25 #[.agg #[.slice tq tn tc, .slice rq rn rc, .slice bq bn bc, .slice mq mn mc, .bool o], .agg #[.int .i64 9, .int .i64 kt, .int .u16 ki, .int .i64 tt, .int .u16 ti, .int .i64 qv, .string qs, .int .i64 qn]] w (SsPost (stepW x ⟨9, ⟨kt, ki⟩, ⟨tt, ti⟩, qv, qs, qn⟩) w) := by
  obtain ⟨W, hW⟩ : ∃ W, (((w.alloc (.cells #[.slice tq tn tc, .slice rq rn rc, .slice bq bn bc, .slice mq mn mc, .bool o] 46)).alloc (.cells #[.int .i64 9, .int .i64 kt, .int .u16 ki, .int .i64 tt, .int .u16 ti, .int .i64 qv, .string qs, .int .i64 qn] 30)).alloc (.cells #[.slice none 0 0, .slice none 0 0, .slice none 0 0, .slice none 0 0, .bool false] 46)).alloc (.cells #[.int .i64 0, .slice none 0 0, .int .i64 0] 35) = W := ⟨_, rfl⟩
  have hbx := Lib.hid (four_rowsI (xs := [.slice tq tn tc, .slice rq rn rc, .slice bq bn bc, .slice mq mn mc, .bool o]) (ys := [.int .i64 9, .int .i64 kt, .int .u16 ki, .int .i64 tt, .int .u16 ti, .int .i64 qv, .string qs, .int .i64 qn]) (zs := [.slice none 0 0, .slice none 0 0, .slice none 0 0, .slice none 0 0, .bool false]) (us := [.int .i64 0, .slice none 0 0, .int .i64 0]) hW)
  have b0 := Lib.hid hbx.out.1
  have s0 := Lib.hid hbx.out.2.1
  have q0 := Lib.hid hbx.out.2.2.1
  have z0 := Lib.hid hbx.out.2.2.2.1
  have a0 := Lib.hid hbx.out.2.2.2.2.1
  have hsz := Lib.hid hbx.out.2.2.2.2.2
  have hx' := Lib.hid hx
  have hs' := Lib.hid hs
  have hq' := Lib.hid hq
  have hrq' := Lib.hid hrq
  have hmn : x.marks.length = mn := hx.marks.len
  have hm8 : mn ≤ 8 := by rw [← hmn]; exact serB_marks hs
  have hmn' := Lib.hid hmn
  clear hx hs hq hrq hbx hmn
  have y0 : W.cell? ⟨w.heap.size + 1, 0, none⟩ = some (.int .i64 9) := q0.out.cell 0
  by_cases he : mn = 8
  · have he1 : ((mn : Int) == 8) = true := by simp; omega
    have hdr : Hid (stepW x ⟨9, ⟨kt, ki⟩, ⟨tt, ti⟩, qv, qs, qn⟩ = (x, errA 6)) := by show marW x = _; unfold marW; rw [if_pos (by rw [hmn'.out]; exact he)]
    rw [hdr.out]
    clear he
    have sc0 : W.cell? ⟨w.heap.size, 0, none⟩ = some (.slice tq tn tc) := s0.out.cell 0
    have sf0 := s0.out.free 0
    have sc1 : W.cell? ⟨w.heap.size, 1, none⟩ = some (.slice rq rn rc) := s0.out.cell 1
    have sf1 := s0.out.free 1
    have sc2 : W.cell? ⟨w.heap.size, 2, none⟩ = some (.slice bq bn bc) := s0.out.cell 2
    have sf2 := s0.out.free 2
    have sc3 : W.cell? ⟨w.heap.size, 3, none⟩ = some (.slice mq mn mc) := s0.out.cell 3
    have sf3 := s0.out.free 3
    have sc4 : W.cell? ⟨w.heap.size, 4, none⟩ = some (.bool o) := s0.out.cell 4
    have sf4 := s0.out.free 4
    have zc0 : W.cell? ⟨w.heap.size + 2, 0, none⟩ = some (.slice none 0 0) := z0.out.cell 0
    have zf0 := z0.out.free 0
    have zc1 : W.cell? ⟨w.heap.size + 2, 1, none⟩ = some (.slice none 0 0) := z0.out.cell 1
    have zf1 := z0.out.free 1
    have zc2 : W.cell? ⟨w.heap.size + 2, 2, none⟩ = some (.slice none 0 0) := z0.out.cell 2
    have zf2 := z0.out.free 2
    have zc3 : W.cell? ⟨w.heap.size + 2, 3, none⟩ = some (.slice none 0 0) := z0.out.cell 3
    have zf3 := z0.out.free 3
    have zc4 : W.cell? ⟨w.heap.size + 2, 4, none⟩ = some (.bool false) := z0.out.cell 4
    have zf4 := z0.out.free 4
    have ac0 : W.cell? ⟨w.heap.size + 3, 0, none⟩ = some (.int .i64 0) := a0.out.cell 0
    have af0 := a0.out.free 0
    have ac1 : W.cell? ⟨w.heap.size + 3, 1, none⟩ = some (.slice none 0 0) := a0.out.cell 1
    have af1 := a0.out.free 1
    have ac2 : W.cell? ⟨w.heap.size + 3, 2, none⟩ = some (.int .i64 0) := a0.out.cell 2
    have af2 := a0.out.free 2
    go_enter Try.func25, Try.ntmps25
    obtain ⟨Z, hZ⟩ : ∃ Z, ((((((((W.setCell ⟨w.heap.size + 2, 0, none⟩ (.slice tq tn tc)).setCell ⟨w.heap.size + 2, 1, none⟩ (.slice rq rn rc)).setCell ⟨w.heap.size + 2, 2, none⟩ (.slice bq bn bc)).setCell ⟨w.heap.size + 2, 3, none⟩ (.slice mq mn mc)).setCell ⟨w.heap.size + 2, 4, none⟩ (.bool o)).setCell ⟨w.heap.size + 3, 0, none⟩ (.int .i64 6)).setCell ⟨w.heap.size + 3, 1, none⟩ (.slice none 0 0)).setCell ⟨w.heap.size + 3, 2, none⟩ (.int .i64 0)) = Z := ⟨_, rfl⟩
    have zZ : Hid (RowV 46 Z (w.heap.size + 2) [.slice tq tn tc, .slice rq rn rc, .slice bq bn bc, .slice mq mn mc, .bool o]) := by
      show RowV _ _ _ _
      rw [← hZ]
      exact ((((((((z0.out.set 0 (.slice tq tn tc)).set 1 (.slice rq rn rc)).set 2 (.slice bq bn bc)).set 3 (.slice mq mn mc)).set 4 (.bool o)).kept (setCell_grown _ _ _ _) (by omega)).kept (setCell_grown _ _ _ _) (by omega)).kept (setCell_grown _ _ _ _) (by omega))
    have aZ : Hid (RowV 35 Z (w.heap.size + 3) [.int .i64 6, .slice none 0 0, .int .i64 0]) := by
      show RowV _ _ _ _
      rw [← hZ]
      exact ((((((((a0.out.kept (setCell_grown _ _ _ _) (by omega)).kept (setCell_grown _ _ _ _) (by omega)).kept (setCell_grown _ _ _ _) (by omega)).kept (setCell_grown _ _ _ _) (by omega)).kept (setCell_grown _ _ _ _) (by omega)).set 0 (.int .i64 6)).set 1 (.slice none 0 0)).set 2 (.int .i64 0))
    have bZ : Hid (Below w.heap.size w Z) := by
      show Below _ _ _
      rw [← hZ]
      exact (bset (bset (bset (bset (bset (bset (bset (bset ⟨b0.out, by have := hsz.out; have := b0.out.size; omega⟩ (by omega)) (by omega)) (by omega)) (by omega)) (by omega)) (by omega)) (by omega)) (by omega)).1
    go_wp2
    have m0 := zZ.out.cell 0
    have m1 := zZ.out.cell 1
    have m2 := zZ.out.cell 2
    have m3 := zZ.out.cell 3
    have m4 := zZ.out.cell 4
    have n0 := aZ.out.cell 0
    have n1 := aZ.out.cell 1
    have n2 := aZ.out.cell 2
    simp only [List.getElem?_cons_zero, List.getElem?_cons_succ] at m0 m1 m2 m3 m4 n0 n1 n2
    refine bodyPost_ret (v := .tuple #[.agg #[.slice tq tn tc, .slice rq rn rc, .slice bq bn bc, .slice mq mn mc, .bool o], .agg #[.int .i64 6, .slice none 0 0, .int .i64 0]]) (by simp [results, Try.results25, go_sem, m0, m1, m2, m3, m4, n0, n1, n2]) rfl ?_
    exact ⟨(⟨tq, tn, tc, rq, rn, rc, bq, bn, bc, mq, mn, mc, o⟩ : SV), (⟨6, none, 0, 0, 0⟩ : AV), rfl, hx'.out.below bZ.out (Nat.le_refl _), rfl, rfl, RowsOn.none_ _, bZ.out⟩
  · have he1 : ((mn : Int) == 8) = false := by simp; omega
    have hdr : Hid (stepW x ⟨9, ⟨kt, ki⟩, ⟨tt, ti⟩, qv, qs, qn⟩ = ({ x with marks := x.marks ++ [x.rows] }, ⟨0, [], x.marks.length + 1⟩)) := by show marW x = _; unfold marW; rw [if_neg (by rw [hmn'.out]; exact he)]
    rw [hdr.out]
    clear he
    have c3 : W.cell? ⟨w.heap.size, 3, none⟩ = some (.slice mq mn mc) := s0.out.cell 3
    go_enter Try.func25, Try.ntmps25
    obtain ⟨vs, hvs, hvl, hve⟩ := hx'.out.marks
    have hvs' := Lib.hid hvs
    have hvl' := Lib.hid hvl
    have hve2 : Hid (∀ (i : Nat) (v : SlV) (l : List RowD), vs[i]? = some v → x.marks[i]? = some l → RowsOn w v.q v.n v.c l) := hve
    clear hvs hvl hve
    go_wp2
    clear hW c3 y0
    refine wp_region_x (by kernel_rfl) 9 (fun u : World => u.cell? ⟨w.heap.size, 3, none⟩ = some (.slice mq mn mc) ∧ u.cell? ⟨w.heap.size, 1, none⟩ = some (.slice rq rn rc)) ?_
    change wpAnyX _ _ _ _ _ _ _ _ _ (World.drew W)
    have hX0 : Hid ((fun u : World => u.cell? ⟨w.heap.size, 3, none⟩ = some (.slice mq mn mc) ∧ u.cell? ⟨w.heap.size, 1, none⟩ = some (.slice rq rn rc)) W.drew) := ⟨s0.out.cell 3, s0.out.cell 1⟩
    refine x_pu (i := 1) (dst := some 19) (v := .pointer (some ⟨w.heap.size, 3, none⟩)) rfl rfl (.inl ⟨rfl, fun u _ => by go_simp⟩) (fun _ => hX0.out) ?_
    go_frame
    refine x_tk (i := 2) (dst := some 20) (v := .slice mq mn mc) rfl rfl (.inl ⟨rfl, fun u hu => by have y0 := hu.1; go_simp⟩) hX0.out ?_
    go_frame
    refine x_pu (i := 4) (dst := some 22) (v := .pointer (some ⟨w.heap.size, 1, none⟩)) rfl rfl (.inl ⟨rfl, fun u _ => by go_simp⟩) (fun _ => hX0.out) ?_
    go_frame
    refine x_tk (i := 5) (dst := some 23) (v := .slice rq rn rc) rfl rfl (.inl ⟨rfl, fun u hu => by have y0 := hu.2; go_simp⟩) hX0.out ?_
    go_frame
    have hB0 : Hid (Below W.heap.size W W.drew) := below_drew W
    have hXof : Hid (∀ u, Below W.heap.size W u → (fun u : World => u.cell? ⟨w.heap.size, 3, none⟩ = some (.slice mq mn mc) ∧ u.cell? ⟨w.heap.size, 1, none⟩ = some (.slice rq rn rc)) u) := fun u hu => ⟨(s0.out.below hu).cell 3, (s0.out.below hu).cell 1⟩
    refine x_two (i := 0) (j := 6) (by kernel_rfl) ?_ ?_
    · skip
      obtain ⟨v1, hv1⟩ : ∃ u, W.drew.alloc (.cells #[] 25) = u := ⟨_, rfl⟩
      have hB1 : Hid (Below W.heap.size W v1) := hB0.out.trans (by rw [← hv1]; exact ((Below.refl _ _).alloc (Nat.le_refl _) _).mono hB0.out.size)
      have hL0 : Hid (W.heap.size ≤ W.drew.heap.size) := hB0.out.size
      have own0 : Hid (OwnS 25 v1 W.drew.heap.size (.slice (some ⟨W.drew.heap.size, 0, none⟩) 0 0) ([] : List SlV)) := OwnS.empty hv1 rfl
      refine value_op (dst := some 18) (w' := v1) (v := .slice (some ⟨W.drew.heap.size, 0, none⟩) 0 0) rfl rfl rfl (by rw [← hv1]; go_simp) ⟨fun _ => hXof.out v1 hB1.out, ?_⟩
      go_frame
      refine x_two (i := 3) (j := 6) (by kernel_rfl) ?_ ?_
      · skip
        obtain ⟨q1, c1, v2, hrun, hown, hgr, _⟩ := run_append_l (P := Try.prog) (w := v1) (t := 44) (T := 25) Try.underlying44 infoSl rfl 44 own0.out (hvs'.out.below (b0.out.trans (hB1.out.mono b0.out.size)) (Nat.le_refl _)) (by omega) (by omega) (Nat.le_of_lt (own0.out.far _ rfl).2)
        rw [Nat.zero_add, List.nil_append] at hown
        rw [Nat.zero_add] at hrun
        try rw [show W.drew.heap.size = W.heap.size from rfl] at hrun
        have own1 := Lib.hid hown
        have hg1 : Hid (v1.grownBy v2 (some W.drew.heap.size)) := hgr
        have hB2 : Hid (Below W.heap.size W v2) := hB1.out.grown hg1.out hB1.out.size (fun k hk => by cases hk; exact hL0.out)
        refine value_op (dst := some 21) (w' := v2) (v := .slice q1 mn c1) rfl rfl rfl (by simp [execOp, resolve, invoke, builtin, Act.eval, hrun, Result.andThen]) ⟨fun _ => hXof.out v2 hB2.out, ?_⟩
        go_frame
        clear hown hgr hrun
        obtain ⟨v3, hv3⟩ : ∃ u, v2.alloc (.cells #[.slice rq rn rc] 25) = u := ⟨_, rfl⟩
        have hbs := one_rowI (xs := [.slice rq rn rc]) hv3
        have hB3 : Hid (Below W.heap.size W v3) := hB2.out.trans (hbs.1.mono hB2.out.size)
        have sg := Lib.hid hbs.2.1
        have hL6 : Hid (W.heap.size ≤ v2.heap.size) := hB2.out.size
        refine x_value (i := 6) (dst := some 24) (w' := v3) (v := .slice (some ⟨v2.heap.size, 0, none⟩) 1 1) rfl rfl (by kernel_rfl) rfl (by rw [← hv3]; go_simp) (fun _ => hXof.out v3 hB3.out) ?_
        go_frame
        have own1 := Lib.hid (own1.out.below hbs.1)
        clear hbs
        obtain ⟨q2, c2, v4, hrun, hown, hgr, _⟩ := run_append_l (P := Try.prog) (w := v3) (t := 44) (T := 25) Try.underlying44 infoSl rfl 44 own1.out (OwnS.single (r := (⟨rq, rn, rc⟩ : SlV)) sg.out).reads (by omega) (by omega) (by have h1 := hB3.out.size; have h2 : W.drew.heap.size = W.heap.size := rfl; omega)
        have own2 := Lib.hid hown
        try rw [show W.drew.heap.size = W.heap.size from rfl] at hrun
        have hL1 : ∀ k, q1.map (·.block) = some k → W.heap.size ≤ k := fun k hk => by
          cases q1 with
          | none => cases hk
          | some a => cases hk; exact Nat.le_trans hL0.out (own1.out.far a rfl).1
        have hB4 : Hid (Below W.heap.size W v4) := hB3.out.grown hgr hB3.out.size hL1
        refine x_value (i := 7) (dst := some 25) (w' := v4) (v := .slice q2 (mn + 1) c2) rfl rfl (by kernel_rfl) rfl (by simp [execOp, resolve, invoke, builtin, Act.eval, hrun, Result.andThen]) (fun _ => hXof.out v4 hB4.out) ?_
        go_frame
        clear hown hgr hrun hL1
        refine x_pu (i := 8) (dst := some 26) (v := .pointer (some ⟨w.heap.size, 3, none⟩)) rfl rfl (.inl ⟨rfl, fun u _ => by go_simp⟩) (fun _ => hXof.out v4 hB4.out) ?_
        go_frame
        have s5 := Lib.hid (s0.out.below hB4.out)
        have z5 := Lib.hid (z0.out.below hB4.out)
        have a5 := Lib.hid (a0.out.below hB4.out)
        have b5 := Lib.hid (b0.out.trans (hB4.out.mono b0.out.size))
        obtain ⟨u9, hst, h9, hg9⟩ := run_storeVar_one (P := Try.prog) (ty := 44) (o := 3) (v := .slice q2 (mn + 1) c2) s5.out oneMks rfl (by simp) rfl
        refine x_skip (i := 9) (dst := none) (w' := u9) rfl rfl (by kernel_rfl) rfl (run_store_op rfl rfl rfl hst) (x_gone (by kernel_rfl)) ?_
        go_frame
        refine x_done (by kernel_rfl) ?_
        have s6 : Hid (RowV 46 u9 (w.heap.size) [.slice tq tn tc, .slice rq rn rc, .slice bq bn bc, .slice q2 (mn + 1) c2, .bool o]) := h9
        have z6 := Lib.hid (z5.out.kept hg9 (by omega))
        have a6 := Lib.hid (a5.out.kept hg9 (by omega))
        have b6 := Lib.hid (b5.out.grown hg9 b5.out.size (fun k hk => by cases hk; exact Nat.le_refl _))
        have m6 := Lib.hid (own2.out.gt hg9 s5.out (by decide))
        have hadd : IntKind.i64.wrap ((mn : Int) + 1) = (mn : Int) + 1 := IntWalk.i64_in _ (by omega)
        clear hst h9 hg9 s5 z5 a5 b5 own2
        go_wp2
        refine wp_region_held (S := fun u => RowV 46 u (w.heap.size) [.slice tq tn tc, .slice rq rn rc, .slice bq bn bc, .slice q2 (mn + 1) c2, .bool o]) (by kernel_rfl) ?_
        change wpAnyH _ _ _ _ _ _ _ _ (World.drew u9)
        have hY0 : Hid (RowV 46 u9.drew (w.heap.size) [.slice tq tn tc, .slice rq rn rc, .slice bq bn bc, .slice q2 (mn + 1) c2, .bool o]) := s6.out
        refine held_tk (i := 0) (dst := some 27) (v := .agg #[.slice tq tn tc, .slice rq rn rc, .slice bq bn bc, .slice q2 (mn + 1) c2, .bool o]) rfl rfl (y_load_agg 46 (.tmp 2) rfl rfl rfl (fun u hu => run_loadVar_at Try.underlying46 rfl (sizeSer _ _ _ _ _) _ hu.boxed.all)) hY0.out ?_
        go_frame
        refine held_tk (i := 1) (dst := some 28) (v := .pointer (some ⟨w.heap.size, 3, none⟩)) rfl rfl (.inl ⟨rfl, fun u _ => by go_simp⟩) hY0.out ?_
        go_frame
        refine held_tk (i := 2) (dst := some 29) (v := .slice q2 (mn + 1) c2) rfl rfl (.inl ⟨rfl, fun u hu => by have y0 : u.cell? ⟨w.heap.size, 3, none⟩ = some (.slice q2 (mn + 1) c2) := hu.cell 3; go_simp⟩) hY0.out ?_
        go_frame
        refine held_tk (i := 3) (dst := some 30) (v := .int .i64 ((mn : Int) + 1)) rfl rfl (.inl ⟨rfl, fun u _ => by go_simp⟩) hY0.out ?_
        go_frame
        refine held_tk (i := 4) (dst := some 31) (v := .agg #[.int .i64 0, .slice none 0 0, .int .i64 ((mn : Int) + 1)]) rfl rfl (.inl ⟨rfl, fun u _ => by go_simp⟩) hY0.out ?_
        go_frame
        have z7 := Lib.hid (z6.out.below (below_drew u9))
        have a7 := Lib.hid (a6.out.below (below_drew u9))
        have b7 := Lib.hid (b6.out.trans ((below_drew u9).mono b6.out.size))
        have m7 := Lib.hid (m6.out.below (below_drew u9))
        obtain ⟨uA, hst, h9, hg9⟩ := run_storeVar_at (P := Try.prog) (w := u9.drew) (ty := 46) (o := 0) (vs := [.slice tq tn tc, .slice rq rn rc, .slice bq bn bc, .slice q2 (mn + 1) c2, .bool o]) z7.out (sizeSer _ _ _ _ _) (Nat.le_refl _) (ser_one' _ _ _ _ _ _ _ _ _ _ _ _ _)
        have hYA : Hid ((fun u : World => RowV 46 u (w.heap.size) [.slice tq tn tc, .slice rq rn rc, .slice bq bn bc, .slice q2 (mn + 1) c2, .bool o]) uA) := hY0.out.kept hg9 (by omega)
        refine held_skip (i := 5) (dst := none) (w' := uA) rfl rfl (by kernel_rfl) rfl (run_store_op rfl rfl rfl hst) hYA.out ?_
        go_frame
        have zA : Hid (RowV 46 uA (w.heap.size + 2) [.slice tq tn tc, .slice rq rn rc, .slice bq bn bc, .slice q2 (mn + 1) c2, .bool o]) := h9
        have aA := Lib.hid (a7.out.kept hg9 (by omega))
        have bA := Lib.hid (b7.out.grown hg9 b7.out.size (fun k hk => by cases hk; omega))
        have mA := Lib.hid (m7.out.gt hg9 z7.out (by decide))
        
        
        clear hst h9 hg9
        obtain ⟨uB, hst, h9, hg9⟩ := run_storeVar_at (P := Try.prog) (w := uA) (ty := 35) (o := 0) (vs := [.int .i64 0, .slice none 0 0, .int .i64 ((mn : Int) + 1)]) aA.out (sizeAns _ _ _) (Nat.le_refl _) (ans_one _ _ _ _ _)
        have hYB : Hid ((fun u : World => RowV 46 u (w.heap.size) [.slice tq tn tc, .slice rq rn rc, .slice bq bn bc, .slice q2 (mn + 1) c2, .bool o]) uB) := hYA.out.kept hg9 (by omega)
        refine held_skip (i := 6) (dst := none) (w' := uB) rfl rfl (by kernel_rfl) rfl (run_store_op rfl rfl rfl hst) hYB.out ?_
        go_frame
        refine wpAnyH_done (by kernel_rfl) ?_ _
        have aB : Hid (RowV 35 uB (w.heap.size + 3) [.int .i64 0, .slice none 0 0, .int .i64 ((mn : Int) + 1)]) := h9
        have zB := Lib.hid (zA.out.kept hg9 (by omega))
        have bB := Lib.hid (bA.out.grown hg9 bA.out.size (fun k hk => by cases hk; omega))
        have mB := Lib.hid (mA.out.gt hg9 aA.out (by decide))
        
        
        clear hst h9 hg9 hYA hYB zA aA bA
        clear hY0 s6 z6 a6 b6 m6
        go_wp2
        have m0 := zB.out.cell 0
        have m1 := zB.out.cell 1
        have m2 := zB.out.cell 2
        have m3 := zB.out.cell 3
        have m4 := zB.out.cell 4
        have n0 := aB.out.cell 0
        have n1 := aB.out.cell 1
        have n2 := aB.out.cell 2
        simp only [List.getElem?_cons_zero, List.getElem?_cons_succ] at m0 m1 m2 m3 m4 n0 n1 n2
        refine bodyPost_ret (v := .tuple #[.agg #[.slice tq tn tc, .slice rq rn rc, .slice bq bn bc, .slice q2 (mn + 1) c2, .bool o], .agg #[.int .i64 0, .slice none 0 0, .int .i64 ((mn : Int) + 1)]]) (by simp [results, Try.results25, go_sem, m0, m1, m2, m3, m4, n0, n1, n2]) rfl ?_
        have hz := hx'.out.below bB.out (Nat.le_refl _)
        refine ⟨(⟨tq, tn, tc, rq, rn, rc, bq, bn, bc, q2, mn + 1, c2, o⟩ : SV), (⟨0, none, 0, 0, (mn : Int) + 1⟩ : AV), rfl, ⟨hz.sch, hz.sok, hz.rows, hz.begun, ?_, hz.over⟩, rfl, by show (mn : Int) + 1 = ((x.marks.length : Int) + 1); rw [hmn'.out], RowsOn.none_ _, bB.out⟩
        refine ⟨vs ++ [⟨rq, rn, rc⟩], mB.out.reads, by rw [List.length_append, List.length_append, hvl'.out]; rfl, fun i v l a b => ?_⟩
        by_cases hi : i < vs.length
        · rw [List.getElem?_append_left hi] at a
          rw [List.getElem?_append_left (by have := hvl'.out; omega)] at b
          exact (hve2.out i v l a b).below bB.out (Nat.le_refl _)
        · have hi2 : i = vs.length := by
            have h1 := (List.getElem?_eq_some_iff.1 a).1
            rw [List.length_append] at h1
            simp at h1
            omega
          subst hi2
          rw [List.getElem?_append_right (Nat.le_refl _), Nat.sub_self] at a
          have hvx := hvl'.out
          rw [List.getElem?_append_right (by omega), show vs.length - x.marks.length = 0 by omega] at b
          obtain rfl : (⟨rq, rn, rc⟩ : SlV) = v := by simpa using a
          obtain rfl : x.rows = l := by simpa using b
          exact hz.rows
      · skip
        obtain ⟨v2, hv2⟩ : ∃ u, v1.alloc (.cells #[.slice rq rn rc] 25) = u := ⟨_, rfl⟩
        have hbs := one_rowI (xs := [.slice rq rn rc]) hv2
        have hB2 : Hid (Below W.heap.size W v2) := hB1.out.trans (hbs.1.mono hB1.out.size)
        have sg := Lib.hid hbs.2.1
        have hL6 : Hid (W.heap.size ≤ v1.heap.size) := hB1.out.size
        refine value_op (dst := some 24) (w' := v2) (v := .slice (some ⟨v1.heap.size, 0, none⟩) 1 1) rfl rfl rfl (by rw [← hv2]; go_simp) ⟨fun _ => hXof.out v2 hB2.out, ?_⟩
        go_frame
        have own0 := Lib.hid (own0.out.below hbs.1)
        clear hbs
        obtain ⟨q1, c1, v3, hrun, hown, hgr, _⟩ := run_append_l (P := Try.prog) (w := v2) (t := 44) (T := 25) Try.underlying44 infoSl rfl 44 own0.out (hvs'.out.below (b0.out.trans (hB2.out.mono b0.out.size)) (Nat.le_refl _)) (by omega) (by omega) (Nat.le_of_lt (own0.out.far _ rfl).2)
        rw [Nat.zero_add, List.nil_append] at hown
        rw [Nat.zero_add] at hrun
        try rw [show W.drew.heap.size = W.heap.size from rfl] at hrun
        have own1 := Lib.hid hown
        have hg1 : Hid (v2.grownBy v3 (some W.drew.heap.size)) := hgr
        have hB3 : Hid (Below W.heap.size W v3) := hB2.out.grown hg1.out hB2.out.size (fun k hk => by cases hk; exact hL0.out)
        refine x_value (i := 3) (dst := some 21) (w' := v3) (v := .slice q1 mn c1) rfl rfl (by kernel_rfl) rfl (by simp [execOp, resolve, invoke, builtin, Act.eval, hrun, Result.andThen]) (fun _ => hXof.out v3 hB3.out) ?_
        go_frame
        clear hown hgr hrun
        have sg := Lib.hid (sg.out.kept hg1.out (by have h1 := (own0.out.far _ rfl).2; have h2 : v1.heap.size = W.drew.heap.size + 1 := (by rw [← hv1]; simp); omega))
        obtain ⟨q2, c2, v4, hrun, hown, hgr, _⟩ := run_append_l (P := Try.prog) (w := v3) (t := 44) (T := 25) Try.underlying44 infoSl rfl 44 own1.out (OwnS.single (r := (⟨rq, rn, rc⟩ : SlV)) sg.out).reads (by omega) (by omega) (by have h1 := hB3.out.size; have h2 : W.drew.heap.size = W.heap.size := rfl; omega)
        have own2 := Lib.hid hown
        try rw [show W.drew.heap.size = W.heap.size from rfl] at hrun
        have hL1 : ∀ k, q1.map (·.block) = some k → W.heap.size ≤ k := fun k hk => by
          cases q1 with
          | none => cases hk
          | some a => cases hk; exact Nat.le_trans hL0.out (own1.out.far a rfl).1
        have hB4 : Hid (Below W.heap.size W v4) := hB3.out.grown hgr hB3.out.size hL1
        refine x_value (i := 7) (dst := some 25) (w' := v4) (v := .slice q2 (mn + 1) c2) rfl rfl (by kernel_rfl) rfl (by simp [execOp, resolve, invoke, builtin, Act.eval, hrun, Result.andThen]) (fun _ => hXof.out v4 hB4.out) ?_
        go_frame
        clear hown hgr hrun hL1
        refine x_pu (i := 8) (dst := some 26) (v := .pointer (some ⟨w.heap.size, 3, none⟩)) rfl rfl (.inl ⟨rfl, fun u _ => by go_simp⟩) (fun _ => hXof.out v4 hB4.out) ?_
        go_frame
        have s5 := Lib.hid (s0.out.below hB4.out)
        have z5 := Lib.hid (z0.out.below hB4.out)
        have a5 := Lib.hid (a0.out.below hB4.out)
        have b5 := Lib.hid (b0.out.trans (hB4.out.mono b0.out.size))
        obtain ⟨u9, hst, h9, hg9⟩ := run_storeVar_one (P := Try.prog) (ty := 44) (o := 3) (v := .slice q2 (mn + 1) c2) s5.out oneMks rfl (by simp) rfl
        refine x_skip (i := 9) (dst := none) (w' := u9) rfl rfl (by kernel_rfl) rfl (run_store_op rfl rfl rfl hst) (x_gone (by kernel_rfl)) ?_
        go_frame
        refine x_done (by kernel_rfl) ?_
        have s6 : Hid (RowV 46 u9 (w.heap.size) [.slice tq tn tc, .slice rq rn rc, .slice bq bn bc, .slice q2 (mn + 1) c2, .bool o]) := h9
        have z6 := Lib.hid (z5.out.kept hg9 (by omega))
        have a6 := Lib.hid (a5.out.kept hg9 (by omega))
        have b6 := Lib.hid (b5.out.grown hg9 b5.out.size (fun k hk => by cases hk; exact Nat.le_refl _))
        have m6 := Lib.hid (own2.out.gt hg9 s5.out (by decide))
        have hadd : IntKind.i64.wrap ((mn : Int) + 1) = (mn : Int) + 1 := IntWalk.i64_in _ (by omega)
        clear hst h9 hg9 s5 z5 a5 b5 own2
        go_wp2
        refine wp_region_held (S := fun u => RowV 46 u (w.heap.size) [.slice tq tn tc, .slice rq rn rc, .slice bq bn bc, .slice q2 (mn + 1) c2, .bool o]) (by kernel_rfl) ?_
        change wpAnyH _ _ _ _ _ _ _ _ (World.drew u9)
        have hY0 : Hid (RowV 46 u9.drew (w.heap.size) [.slice tq tn tc, .slice rq rn rc, .slice bq bn bc, .slice q2 (mn + 1) c2, .bool o]) := s6.out
        refine held_tk (i := 0) (dst := some 27) (v := .agg #[.slice tq tn tc, .slice rq rn rc, .slice bq bn bc, .slice q2 (mn + 1) c2, .bool o]) rfl rfl (y_load_agg 46 (.tmp 2) rfl rfl rfl (fun u hu => run_loadVar_at Try.underlying46 rfl (sizeSer _ _ _ _ _) _ hu.boxed.all)) hY0.out ?_
        go_frame
        refine held_tk (i := 1) (dst := some 28) (v := .pointer (some ⟨w.heap.size, 3, none⟩)) rfl rfl (.inl ⟨rfl, fun u _ => by go_simp⟩) hY0.out ?_
        go_frame
        refine held_tk (i := 2) (dst := some 29) (v := .slice q2 (mn + 1) c2) rfl rfl (.inl ⟨rfl, fun u hu => by have y0 : u.cell? ⟨w.heap.size, 3, none⟩ = some (.slice q2 (mn + 1) c2) := hu.cell 3; go_simp⟩) hY0.out ?_
        go_frame
        refine held_tk (i := 3) (dst := some 30) (v := .int .i64 ((mn : Int) + 1)) rfl rfl (.inl ⟨rfl, fun u _ => by go_simp⟩) hY0.out ?_
        go_frame
        refine held_tk (i := 4) (dst := some 31) (v := .agg #[.int .i64 0, .slice none 0 0, .int .i64 ((mn : Int) + 1)]) rfl rfl (.inl ⟨rfl, fun u _ => by go_simp⟩) hY0.out ?_
        go_frame
        have z7 := Lib.hid (z6.out.below (below_drew u9))
        have a7 := Lib.hid (a6.out.below (below_drew u9))
        have b7 := Lib.hid (b6.out.trans ((below_drew u9).mono b6.out.size))
        have m7 := Lib.hid (m6.out.below (below_drew u9))
        obtain ⟨uA, hst, h9, hg9⟩ := run_storeVar_at (P := Try.prog) (w := u9.drew) (ty := 46) (o := 0) (vs := [.slice tq tn tc, .slice rq rn rc, .slice bq bn bc, .slice q2 (mn + 1) c2, .bool o]) z7.out (sizeSer _ _ _ _ _) (Nat.le_refl _) (ser_one' _ _ _ _ _ _ _ _ _ _ _ _ _)
        have hYA : Hid ((fun u : World => RowV 46 u (w.heap.size) [.slice tq tn tc, .slice rq rn rc, .slice bq bn bc, .slice q2 (mn + 1) c2, .bool o]) uA) := hY0.out.kept hg9 (by omega)
        refine held_skip (i := 5) (dst := none) (w' := uA) rfl rfl (by kernel_rfl) rfl (run_store_op rfl rfl rfl hst) hYA.out ?_
        go_frame
        have zA : Hid (RowV 46 uA (w.heap.size + 2) [.slice tq tn tc, .slice rq rn rc, .slice bq bn bc, .slice q2 (mn + 1) c2, .bool o]) := h9
        have aA := Lib.hid (a7.out.kept hg9 (by omega))
        have bA := Lib.hid (b7.out.grown hg9 b7.out.size (fun k hk => by cases hk; omega))
        have mA := Lib.hid (m7.out.gt hg9 z7.out (by decide))
        
        
        clear hst h9 hg9
        obtain ⟨uB, hst, h9, hg9⟩ := run_storeVar_at (P := Try.prog) (w := uA) (ty := 35) (o := 0) (vs := [.int .i64 0, .slice none 0 0, .int .i64 ((mn : Int) + 1)]) aA.out (sizeAns _ _ _) (Nat.le_refl _) (ans_one _ _ _ _ _)
        have hYB : Hid ((fun u : World => RowV 46 u (w.heap.size) [.slice tq tn tc, .slice rq rn rc, .slice bq bn bc, .slice q2 (mn + 1) c2, .bool o]) uB) := hYA.out.kept hg9 (by omega)
        refine held_skip (i := 6) (dst := none) (w' := uB) rfl rfl (by kernel_rfl) rfl (run_store_op rfl rfl rfl hst) hYB.out ?_
        go_frame
        refine wpAnyH_done (by kernel_rfl) ?_ _
        have aB : Hid (RowV 35 uB (w.heap.size + 3) [.int .i64 0, .slice none 0 0, .int .i64 ((mn : Int) + 1)]) := h9
        have zB := Lib.hid (zA.out.kept hg9 (by omega))
        have bB := Lib.hid (bA.out.grown hg9 bA.out.size (fun k hk => by cases hk; omega))
        have mB := Lib.hid (mA.out.gt hg9 aA.out (by decide))
        
        
        clear hst h9 hg9 hYA hYB zA aA bA
        clear hY0 s6 z6 a6 b6 m6
        go_wp2
        have m0 := zB.out.cell 0
        have m1 := zB.out.cell 1
        have m2 := zB.out.cell 2
        have m3 := zB.out.cell 3
        have m4 := zB.out.cell 4
        have n0 := aB.out.cell 0
        have n1 := aB.out.cell 1
        have n2 := aB.out.cell 2
        simp only [List.getElem?_cons_zero, List.getElem?_cons_succ] at m0 m1 m2 m3 m4 n0 n1 n2
        refine bodyPost_ret (v := .tuple #[.agg #[.slice tq tn tc, .slice rq rn rc, .slice bq bn bc, .slice q2 (mn + 1) c2, .bool o], .agg #[.int .i64 0, .slice none 0 0, .int .i64 ((mn : Int) + 1)]]) (by simp [results, Try.results25, go_sem, m0, m1, m2, m3, m4, n0, n1, n2]) rfl ?_
        have hz := hx'.out.below bB.out (Nat.le_refl _)
        refine ⟨(⟨tq, tn, tc, rq, rn, rc, bq, bn, bc, q2, mn + 1, c2, o⟩ : SV), (⟨0, none, 0, 0, (mn : Int) + 1⟩ : AV), rfl, ⟨hz.sch, hz.sok, hz.rows, hz.begun, ?_, hz.over⟩, rfl, by show (mn : Int) + 1 = ((x.marks.length : Int) + 1); rw [hmn'.out], RowsOn.none_ _, bB.out⟩
        refine ⟨vs ++ [⟨rq, rn, rc⟩], mB.out.reads, by rw [List.length_append, List.length_append, hvl'.out]; rfl, fun i v l a b => ?_⟩
        by_cases hi : i < vs.length
        · rw [List.getElem?_append_left hi] at a
          rw [List.getElem?_append_left (by have := hvl'.out; omega)] at b
          exact (hve2.out i v l a b).below bB.out (Nat.le_refl _)
        · have hi2 : i = vs.length := by
            have h1 := (List.getElem?_eq_some_iff.1 a).1
            rw [List.length_append] at h1
            simp at h1
            omega
          subst hi2
          rw [List.getElem?_append_right (Nat.le_refl _), Nat.sub_self] at a
          have hvx := hvl'.out
          rw [List.getElem?_append_right (by omega), show vs.length - x.marks.length = 0 by omega] at b
          obtain rfl : (⟨rq, rn, rc⟩ : SlV) = v := by simpa using a
          obtain rfl : x.rows = l := by simpa using b
          exact hz.rows
    · skip
      obtain ⟨v1, hv1⟩ : ∃ u, W.drew.alloc (.cells #[.slice rq rn rc] 25) = u := ⟨_, rfl⟩
      have hbs := one_rowI (xs := [.slice rq rn rc]) hv1
      have hB1 : Hid (Below W.heap.size W v1) := hB0.out.trans (hbs.1.mono hB0.out.size)
      have sg := Lib.hid hbs.2.1
      have hL6 : Hid (W.heap.size ≤ W.drew.heap.size) := hB0.out.size
      refine value_op (dst := some 24) (w' := v1) (v := .slice (some ⟨W.drew.heap.size, 0, none⟩) 1 1) rfl rfl rfl (by rw [← hv1]; go_simp) ⟨fun _ => hXof.out v1 hB1.out, ?_⟩
      go_frame
      have hv1s : v1.heap.size = W.drew.heap.size + 1 := by rw [← hv1]; simp
      clear hbs
      obtain ⟨v2, hv2⟩ : ∃ u, v1.alloc (.cells #[] 25) = u := ⟨_, rfl⟩
      have hB2 : Hid (Below W.heap.size W v2) := hB1.out.trans (by rw [← hv2]; exact ((Below.refl _ _).alloc (Nat.le_refl _) _).mono hB1.out.size)
      have hL0 : Hid (W.heap.size ≤ v1.heap.size) := hB1.out.size
      have own0 : Hid (OwnS 25 v2 v1.heap.size (.slice (some ⟨v1.heap.size, 0, none⟩) 0 0) ([] : List SlV)) := OwnS.empty hv2 rfl
      refine x_value (i := 0) (dst := some 18) (w' := v2) (v := .slice (some ⟨v1.heap.size, 0, none⟩) 0 0) rfl rfl (by kernel_rfl) rfl (by rw [← hv2]; go_simp) (fun _ => hXof.out v2 hB2.out) ?_
      go_frame
      have sg := Lib.hid (sg.out.below (show Below v1.heap.size v1 v2 by rw [← hv2]; exact (Below.refl _ _).alloc (Nat.le_refl _) _))
      obtain ⟨q1, c1, v3, hrun, hown, hgr, _⟩ := run_append_l (P := Try.prog) (w := v2) (t := 44) (T := 25) Try.underlying44 infoSl rfl 44 own0.out (hvs'.out.below (b0.out.trans (hB2.out.mono b0.out.size)) (Nat.le_refl _)) (by omega) (by omega) (Nat.le_of_lt (own0.out.far _ rfl).2)
      rw [Nat.zero_add, List.nil_append] at hown
      rw [Nat.zero_add] at hrun
      try rw [show W.drew.heap.size = W.heap.size from rfl] at hrun
      have own1 := Lib.hid hown
      have hg1 : Hid (v2.grownBy v3 (some v1.heap.size)) := hgr
      have hB3 : Hid (Below W.heap.size W v3) := hB2.out.grown hg1.out hB2.out.size (fun k hk => by cases hk; exact hL0.out)
      refine x_value (i := 3) (dst := some 21) (w' := v3) (v := .slice q1 mn c1) rfl rfl (by kernel_rfl) rfl (by simp [execOp, resolve, invoke, builtin, Act.eval, hrun, Result.andThen]) (fun _ => hXof.out v3 hB3.out) ?_
      go_frame
      clear hown hgr hrun
      have sg := Lib.hid (sg.out.kept hg1.out (by omega))
      obtain ⟨q2, c2, v4, hrun, hown, hgr, _⟩ := run_append_l (P := Try.prog) (w := v3) (t := 44) (T := 25) Try.underlying44 infoSl rfl 44 own1.out (OwnS.single (r := (⟨rq, rn, rc⟩ : SlV)) sg.out).reads (by omega) (by omega) (by have h1 := hB3.out.size; have h2 : v1.heap.size ≤ v2.heap.size := (by rw [← hv2]; simp); have h3 := hg1.out.size; omega)
      have own2 := Lib.hid hown
      try rw [show W.drew.heap.size = W.heap.size from rfl] at hrun
      have hL1 : ∀ k, q1.map (·.block) = some k → W.heap.size ≤ k := fun k hk => by
        cases q1 with
        | none => cases hk
        | some a => cases hk; exact Nat.le_trans hL0.out (own1.out.far a rfl).1
      have hB4 : Hid (Below W.heap.size W v4) := hB3.out.grown hgr hB3.out.size hL1
      refine x_value (i := 7) (dst := some 25) (w' := v4) (v := .slice q2 (mn + 1) c2) rfl rfl (by kernel_rfl) rfl (by simp [execOp, resolve, invoke, builtin, Act.eval, hrun, Result.andThen]) (fun _ => hXof.out v4 hB4.out) ?_
      go_frame
      clear hown hgr hrun hL1
      refine x_pu (i := 8) (dst := some 26) (v := .pointer (some ⟨w.heap.size, 3, none⟩)) rfl rfl (.inl ⟨rfl, fun u _ => by go_simp⟩) (fun _ => hXof.out v4 hB4.out) ?_
      go_frame
      have s5 := Lib.hid (s0.out.below hB4.out)
      have z5 := Lib.hid (z0.out.below hB4.out)
      have a5 := Lib.hid (a0.out.below hB4.out)
      have b5 := Lib.hid (b0.out.trans (hB4.out.mono b0.out.size))
      obtain ⟨u9, hst, h9, hg9⟩ := run_storeVar_one (P := Try.prog) (ty := 44) (o := 3) (v := .slice q2 (mn + 1) c2) s5.out oneMks rfl (by simp) rfl
      refine x_skip (i := 9) (dst := none) (w' := u9) rfl rfl (by kernel_rfl) rfl (run_store_op rfl rfl rfl hst) (x_gone (by kernel_rfl)) ?_
      go_frame
      refine x_done (by kernel_rfl) ?_
      have s6 : Hid (RowV 46 u9 (w.heap.size) [.slice tq tn tc, .slice rq rn rc, .slice bq bn bc, .slice q2 (mn + 1) c2, .bool o]) := h9
      have z6 := Lib.hid (z5.out.kept hg9 (by omega))
      have a6 := Lib.hid (a5.out.kept hg9 (by omega))
      have b6 := Lib.hid (b5.out.grown hg9 b5.out.size (fun k hk => by cases hk; exact Nat.le_refl _))
      have m6 := Lib.hid (own2.out.gt hg9 s5.out (by decide))
      have hadd : IntKind.i64.wrap ((mn : Int) + 1) = (mn : Int) + 1 := IntWalk.i64_in _ (by omega)
      clear hst h9 hg9 s5 z5 a5 b5 own2
      go_wp2
      refine wp_region_held (S := fun u => RowV 46 u (w.heap.size) [.slice tq tn tc, .slice rq rn rc, .slice bq bn bc, .slice q2 (mn + 1) c2, .bool o]) (by kernel_rfl) ?_
      change wpAnyH _ _ _ _ _ _ _ _ (World.drew u9)
      have hY0 : Hid (RowV 46 u9.drew (w.heap.size) [.slice tq tn tc, .slice rq rn rc, .slice bq bn bc, .slice q2 (mn + 1) c2, .bool o]) := s6.out
      refine held_tk (i := 0) (dst := some 27) (v := .agg #[.slice tq tn tc, .slice rq rn rc, .slice bq bn bc, .slice q2 (mn + 1) c2, .bool o]) rfl rfl (y_load_agg 46 (.tmp 2) rfl rfl rfl (fun u hu => run_loadVar_at Try.underlying46 rfl (sizeSer _ _ _ _ _) _ hu.boxed.all)) hY0.out ?_
      go_frame
      refine held_tk (i := 1) (dst := some 28) (v := .pointer (some ⟨w.heap.size, 3, none⟩)) rfl rfl (.inl ⟨rfl, fun u _ => by go_simp⟩) hY0.out ?_
      go_frame
      refine held_tk (i := 2) (dst := some 29) (v := .slice q2 (mn + 1) c2) rfl rfl (.inl ⟨rfl, fun u hu => by have y0 : u.cell? ⟨w.heap.size, 3, none⟩ = some (.slice q2 (mn + 1) c2) := hu.cell 3; go_simp⟩) hY0.out ?_
      go_frame
      refine held_tk (i := 3) (dst := some 30) (v := .int .i64 ((mn : Int) + 1)) rfl rfl (.inl ⟨rfl, fun u _ => by go_simp⟩) hY0.out ?_
      go_frame
      refine held_tk (i := 4) (dst := some 31) (v := .agg #[.int .i64 0, .slice none 0 0, .int .i64 ((mn : Int) + 1)]) rfl rfl (.inl ⟨rfl, fun u _ => by go_simp⟩) hY0.out ?_
      go_frame
      have z7 := Lib.hid (z6.out.below (below_drew u9))
      have a7 := Lib.hid (a6.out.below (below_drew u9))
      have b7 := Lib.hid (b6.out.trans ((below_drew u9).mono b6.out.size))
      have m7 := Lib.hid (m6.out.below (below_drew u9))
      obtain ⟨uA, hst, h9, hg9⟩ := run_storeVar_at (P := Try.prog) (w := u9.drew) (ty := 46) (o := 0) (vs := [.slice tq tn tc, .slice rq rn rc, .slice bq bn bc, .slice q2 (mn + 1) c2, .bool o]) z7.out (sizeSer _ _ _ _ _) (Nat.le_refl _) (ser_one' _ _ _ _ _ _ _ _ _ _ _ _ _)
      have hYA : Hid ((fun u : World => RowV 46 u (w.heap.size) [.slice tq tn tc, .slice rq rn rc, .slice bq bn bc, .slice q2 (mn + 1) c2, .bool o]) uA) := hY0.out.kept hg9 (by omega)
      refine held_skip (i := 5) (dst := none) (w' := uA) rfl rfl (by kernel_rfl) rfl (run_store_op rfl rfl rfl hst) hYA.out ?_
      go_frame
      have zA : Hid (RowV 46 uA (w.heap.size + 2) [.slice tq tn tc, .slice rq rn rc, .slice bq bn bc, .slice q2 (mn + 1) c2, .bool o]) := h9
      have aA := Lib.hid (a7.out.kept hg9 (by omega))
      have bA := Lib.hid (b7.out.grown hg9 b7.out.size (fun k hk => by cases hk; omega))
      have mA := Lib.hid (m7.out.gt hg9 z7.out (by decide))
      
      
      clear hst h9 hg9
      obtain ⟨uB, hst, h9, hg9⟩ := run_storeVar_at (P := Try.prog) (w := uA) (ty := 35) (o := 0) (vs := [.int .i64 0, .slice none 0 0, .int .i64 ((mn : Int) + 1)]) aA.out (sizeAns _ _ _) (Nat.le_refl _) (ans_one _ _ _ _ _)
      have hYB : Hid ((fun u : World => RowV 46 u (w.heap.size) [.slice tq tn tc, .slice rq rn rc, .slice bq bn bc, .slice q2 (mn + 1) c2, .bool o]) uB) := hYA.out.kept hg9 (by omega)
      refine held_skip (i := 6) (dst := none) (w' := uB) rfl rfl (by kernel_rfl) rfl (run_store_op rfl rfl rfl hst) hYB.out ?_
      go_frame
      refine wpAnyH_done (by kernel_rfl) ?_ _
      have aB : Hid (RowV 35 uB (w.heap.size + 3) [.int .i64 0, .slice none 0 0, .int .i64 ((mn : Int) + 1)]) := h9
      have zB := Lib.hid (zA.out.kept hg9 (by omega))
      have bB := Lib.hid (bA.out.grown hg9 bA.out.size (fun k hk => by cases hk; omega))
      have mB := Lib.hid (mA.out.gt hg9 aA.out (by decide))
      
      
      clear hst h9 hg9 hYA hYB zA aA bA
      clear hY0 s6 z6 a6 b6 m6
      go_wp2
      have m0 := zB.out.cell 0
      have m1 := zB.out.cell 1
      have m2 := zB.out.cell 2
      have m3 := zB.out.cell 3
      have m4 := zB.out.cell 4
      have n0 := aB.out.cell 0
      have n1 := aB.out.cell 1
      have n2 := aB.out.cell 2
      simp only [List.getElem?_cons_zero, List.getElem?_cons_succ] at m0 m1 m2 m3 m4 n0 n1 n2
      refine bodyPost_ret (v := .tuple #[.agg #[.slice tq tn tc, .slice rq rn rc, .slice bq bn bc, .slice q2 (mn + 1) c2, .bool o], .agg #[.int .i64 0, .slice none 0 0, .int .i64 ((mn : Int) + 1)]]) (by simp [results, Try.results25, go_sem, m0, m1, m2, m3, m4, n0, n1, n2]) rfl ?_
      have hz := hx'.out.below bB.out (Nat.le_refl _)
      refine ⟨(⟨tq, tn, tc, rq, rn, rc, bq, bn, bc, q2, mn + 1, c2, o⟩ : SV), (⟨0, none, 0, 0, (mn : Int) + 1⟩ : AV), rfl, ⟨hz.sch, hz.sok, hz.rows, hz.begun, ?_, hz.over⟩, rfl, by show (mn : Int) + 1 = ((x.marks.length : Int) + 1); rw [hmn'.out], RowsOn.none_ _, bB.out⟩
      refine ⟨vs ++ [⟨rq, rn, rc⟩], mB.out.reads, by rw [List.length_append, List.length_append, hvl'.out]; rfl, fun i v l a b => ?_⟩
      by_cases hi : i < vs.length
      · rw [List.getElem?_append_left hi] at a
        rw [List.getElem?_append_left (by have := hvl'.out; omega)] at b
        exact (hve2.out i v l a b).below bB.out (Nat.le_refl _)
      · have hi2 : i = vs.length := by
          have h1 := (List.getElem?_eq_some_iff.1 a).1
          rw [List.length_append] at h1
          simp at h1
          omega
        subst hi2
        rw [List.getElem?_append_right (Nat.le_refl _), Nat.sub_self] at a
        have hvx := hvl'.out
        rw [List.getElem?_append_right (by omega), show vs.length - x.marks.length = 0 by omega] at b
        obtain rfl : (⟨rq, rn, rc⟩ : SlV) = v := by simpa using a
        obtain rfl : x.rows = l := by simpa using b
        exact hz.rows
set_option maxHeartbeats 4000000 in
theorem sd_10 (tq : Option Addr) (tn tc : Nat) (rq : Option Addr) (rn rc : Nat) (bq : Option Addr) (bn bc : Nat) (mq : Option Addr) (mn mc : Nat) (o : Bool) (kt ki tt ti qv : Int) (qs : ByteArray) (qn : Int) (x : SerD) (w : World) (hx : (⟨tq, tn, tc, rq, rn, rc, bq, bn, bc, mq, mn, mc, o⟩ : SV).On w x) (hs : serB x = true) (hq : ReqOk ⟨10, ⟨kt, ki⟩, ⟨tt, ti⟩, qv, qs, qn⟩) (hrq : reqB x.bs ⟨10, ⟨kt, ki⟩, ⟨tt, ti⟩, qv, qs, qn⟩ = true) :
    Calls Try.prog 25 #[.agg #[.slice tq tn tc, .slice rq rn rc, .slice bq bn bc, .slice mq mn mc, .bool o], .agg #[.int .i64 10, .int .i64 kt, .int .u16 ki, .int .i64 tt, .int .u16 ti, .int .i64 qv, .string qs, .int .i64 qn]] w (SsPost (stepW x ⟨10, ⟨kt, ki⟩, ⟨tt, ti⟩, qv, qs, qn⟩) w) := by
  obtain ⟨W, hW⟩ : ∃ W, (((w.alloc (.cells #[.slice tq tn tc, .slice rq rn rc, .slice bq bn bc, .slice mq mn mc, .bool o] 46)).alloc (.cells #[.int .i64 10, .int .i64 kt, .int .u16 ki, .int .i64 tt, .int .u16 ti, .int .i64 qv, .string qs, .int .i64 qn] 30)).alloc (.cells #[.slice none 0 0, .slice none 0 0, .slice none 0 0, .slice none 0 0, .bool false] 46)).alloc (.cells #[.int .i64 0, .slice none 0 0, .int .i64 0] 35) = W := ⟨_, rfl⟩
  have hbx := Lib.hid (four_rowsI (xs := [.slice tq tn tc, .slice rq rn rc, .slice bq bn bc, .slice mq mn mc, .bool o]) (ys := [.int .i64 10, .int .i64 kt, .int .u16 ki, .int .i64 tt, .int .u16 ti, .int .i64 qv, .string qs, .int .i64 qn]) (zs := [.slice none 0 0, .slice none 0 0, .slice none 0 0, .slice none 0 0, .bool false]) (us := [.int .i64 0, .slice none 0 0, .int .i64 0]) hW)
  have b0 := Lib.hid hbx.out.1
  have s0 := Lib.hid hbx.out.2.1
  have q0 := Lib.hid hbx.out.2.2.1
  have z0 := Lib.hid hbx.out.2.2.2.1
  have a0 := Lib.hid hbx.out.2.2.2.2.1
  have hsz := Lib.hid hbx.out.2.2.2.2.2
  have hx' := Lib.hid hx
  have hs' := Lib.hid hs
  have hq' := Lib.hid hq
  have hrq' := Lib.hid hrq
  have hmn : x.marks.length = mn := hx.marks.len
  have hm8 : mn ≤ 8 := by rw [← hmn]; exact serB_marks hs
  have hmn' := Lib.hid hmn
  clear hx hs hq hrq hbx hmn
  have y0 : W.cell? ⟨w.heap.size + 1, 0, none⟩ = some (.int .i64 10) := q0.out.cell 0
  obtain ⟨k, rfl⟩ : ∃ k : Nat, qn = (k : Int) + 1 := ⟨(qn - 1).toNat, by have h1 := reqB_back hrq'.out rfl; simp only at h1; omega⟩
  have y7 : W.cell? ⟨w.heap.size + 1, 7, none⟩ = some (.int .i64 ((k : Int) + 1)) := q0.out.cell 7
  by_cases he : k < mn
  case neg =>
    have he1 : decide ((mn : Int) < (k : Int) + 1) = true := decide_eq_true (by omega)
    have hdr : Hid (stepW x ⟨10, ⟨kt, ki⟩, ⟨tt, ti⟩, qv, qs, (k : Int) + 1⟩ = (x, errA 4)) := by show bakW x ((k : Int) + 1 - 1).toNat = _; rw [show ((k : Int) + 1 - 1).toNat = k by omega]; unfold bakW; rw [if_neg (by rw [hmn'.out]; exact he)]
    rw [hdr.out]
    clear he
    have sc0 : W.cell? ⟨w.heap.size, 0, none⟩ = some (.slice tq tn tc) := s0.out.cell 0
    have sf0 := s0.out.free 0
    have sc1 : W.cell? ⟨w.heap.size, 1, none⟩ = some (.slice rq rn rc) := s0.out.cell 1
    have sf1 := s0.out.free 1
    have sc2 : W.cell? ⟨w.heap.size, 2, none⟩ = some (.slice bq bn bc) := s0.out.cell 2
    have sf2 := s0.out.free 2
    have sc3 : W.cell? ⟨w.heap.size, 3, none⟩ = some (.slice mq mn mc) := s0.out.cell 3
    have sf3 := s0.out.free 3
    have sc4 : W.cell? ⟨w.heap.size, 4, none⟩ = some (.bool o) := s0.out.cell 4
    have sf4 := s0.out.free 4
    have zc0 : W.cell? ⟨w.heap.size + 2, 0, none⟩ = some (.slice none 0 0) := z0.out.cell 0
    have zf0 := z0.out.free 0
    have zc1 : W.cell? ⟨w.heap.size + 2, 1, none⟩ = some (.slice none 0 0) := z0.out.cell 1
    have zf1 := z0.out.free 1
    have zc2 : W.cell? ⟨w.heap.size + 2, 2, none⟩ = some (.slice none 0 0) := z0.out.cell 2
    have zf2 := z0.out.free 2
    have zc3 : W.cell? ⟨w.heap.size + 2, 3, none⟩ = some (.slice none 0 0) := z0.out.cell 3
    have zf3 := z0.out.free 3
    have zc4 : W.cell? ⟨w.heap.size + 2, 4, none⟩ = some (.bool false) := z0.out.cell 4
    have zf4 := z0.out.free 4
    have ac0 : W.cell? ⟨w.heap.size + 3, 0, none⟩ = some (.int .i64 0) := a0.out.cell 0
    have af0 := a0.out.free 0
    have ac1 : W.cell? ⟨w.heap.size + 3, 1, none⟩ = some (.slice none 0 0) := a0.out.cell 1
    have af1 := a0.out.free 1
    have ac2 : W.cell? ⟨w.heap.size + 3, 2, none⟩ = some (.int .i64 0) := a0.out.cell 2
    have af2 := a0.out.free 2
    go_enter Try.func25, Try.ntmps25
    obtain ⟨Z, hZ⟩ : ∃ Z, ((((((((W.setCell ⟨w.heap.size + 2, 0, none⟩ (.slice tq tn tc)).setCell ⟨w.heap.size + 2, 1, none⟩ (.slice rq rn rc)).setCell ⟨w.heap.size + 2, 2, none⟩ (.slice bq bn bc)).setCell ⟨w.heap.size + 2, 3, none⟩ (.slice mq mn mc)).setCell ⟨w.heap.size + 2, 4, none⟩ (.bool o)).setCell ⟨w.heap.size + 3, 0, none⟩ (.int .i64 4)).setCell ⟨w.heap.size + 3, 1, none⟩ (.slice none 0 0)).setCell ⟨w.heap.size + 3, 2, none⟩ (.int .i64 0)) = Z := ⟨_, rfl⟩
    have zZ : Hid (RowV 46 Z (w.heap.size + 2) [.slice tq tn tc, .slice rq rn rc, .slice bq bn bc, .slice mq mn mc, .bool o]) := by
      show RowV _ _ _ _
      rw [← hZ]
      exact ((((((((z0.out.set 0 (.slice tq tn tc)).set 1 (.slice rq rn rc)).set 2 (.slice bq bn bc)).set 3 (.slice mq mn mc)).set 4 (.bool o)).kept (setCell_grown _ _ _ _) (by omega)).kept (setCell_grown _ _ _ _) (by omega)).kept (setCell_grown _ _ _ _) (by omega))
    have aZ : Hid (RowV 35 Z (w.heap.size + 3) [.int .i64 4, .slice none 0 0, .int .i64 0]) := by
      show RowV _ _ _ _
      rw [← hZ]
      exact ((((((((a0.out.kept (setCell_grown _ _ _ _) (by omega)).kept (setCell_grown _ _ _ _) (by omega)).kept (setCell_grown _ _ _ _) (by omega)).kept (setCell_grown _ _ _ _) (by omega)).kept (setCell_grown _ _ _ _) (by omega)).set 0 (.int .i64 4)).set 1 (.slice none 0 0)).set 2 (.int .i64 0))
    have bZ : Hid (Below w.heap.size w Z) := by
      show Below _ _ _
      rw [← hZ]
      exact (bset (bset (bset (bset (bset (bset (bset (bset ⟨b0.out, by have := hsz.out; have := b0.out.size; omega⟩ (by omega)) (by omega)) (by omega)) (by omega)) (by omega)) (by omega)) (by omega)) (by omega)).1
    go_wp2
    have m0 := zZ.out.cell 0
    have m1 := zZ.out.cell 1
    have m2 := zZ.out.cell 2
    have m3 := zZ.out.cell 3
    have m4 := zZ.out.cell 4
    have n0 := aZ.out.cell 0
    have n1 := aZ.out.cell 1
    have n2 := aZ.out.cell 2
    simp only [List.getElem?_cons_zero, List.getElem?_cons_succ] at m0 m1 m2 m3 m4 n0 n1 n2
    refine bodyPost_ret (v := .tuple #[.agg #[.slice tq tn tc, .slice rq rn rc, .slice bq bn bc, .slice mq mn mc, .bool o], .agg #[.int .i64 4, .slice none 0 0, .int .i64 0]]) (by simp [results, Try.results25, go_sem, m0, m1, m2, m3, m4, n0, n1, n2]) rfl ?_
    exact ⟨(⟨tq, tn, tc, rq, rn, rc, bq, bn, bc, mq, mn, mc, o⟩ : SV), (⟨4, none, 0, 0, 0⟩ : AV), rfl, hx'.out.below bZ.out (Nat.le_refl _), rfl, rfl, RowsOn.none_ _, bZ.out⟩
  have he1 : decide ((mn : Int) < (k : Int) + 1) = false := decide_eq_false (by omega)
  have hdr : Hid (stepW x ⟨10, ⟨kt, ki⟩, ⟨tt, ti⟩, qv, qs, (k : Int) + 1⟩ = ({ x with rows := (x.marks[k]?).getD [], marks := x.marks.take (k + 1) }, okA)) := by show bakW x ((k : Int) + 1 - 1).toNat = _; rw [show ((k : Int) + 1 - 1).toNat = k by omega]; unfold bakW; rw [if_pos (by rw [hmn'.out]; exact he)]; rfl
  rw [hdr.out]
  have hsub : IntKind.i64.wrap ((k : Int) + 1 - 1) = (k : Int) := by rw [IntWalk.i64_in _ (by omega)]; omega
  obtain ⟨vs, hvs, hvl, hve⟩ := hx'.out.marks
  have hvs : SlOn w mq mn mc vs := hvs
  obtain ⟨A, ⟨pq, pn, pc⟩, rfl, hp, hcl⟩ := hvs.at he
  have hmc : mn ≤ mc := hvs.le
  have hcap : mc ≤ maxLen := hvs.cap
  unfold maxLen at hcap
  have hfr := Lib.hid (hvs.front (m := k + 1) (by omega))
  have hvl' := Lib.hid hvl
  have hve2 := Lib.hid hve
  have hp' := Lib.hid hp
  have y2 : W.cell? (A.add (k * 1)) = some (.slice pq pn pc) := by
    have h := cell_keeps b0.out (Nat.le_refl _) (hcl 0 (.slice pq pn pc) rfl)
    rwa [add0] at h
  have y3 : W.cell? (A.add k) = some (.slice pq pn pc) := by rw [Nat.mul_one] at y2; exact y2
  have i0 : (0 : Int) ≤ k := by omega
  have i1 : (k : Int) < mn := by omega
  have i2 : (0 : Int) ≤ (k : Int) + 1 := by omega
  have i3 : (k : Int) + 1 ≤ mc := by omega
  clear hvs hvl hve hp hcl
  have sc1 : W.cell? ⟨w.heap.size, 1, none⟩ = some (.slice rq rn rc) := s0.out.cell 1
  have sf1 := s0.out.free 1
  have sc3 : W.cell? ⟨w.heap.size, 3, none⟩ = some (.slice (some A) mn mc) := s0.out.cell 3
  obtain ⟨W1, hW1⟩ : ∃ W1, W.setCell ⟨w.heap.size, 1, none⟩ (.slice pq pn pc) = W1 := ⟨_, rfl⟩
  have hg1 : W.grownBy W1 (some (w.heap.size)) := by rw [← hW1]; exact setCell_grown _ _ _ _
  obtain ⟨W2, hW2⟩ : ∃ W2, W1.alloc (.cells #[] 25) = W2 := ⟨_, rfl⟩
  have hb2 : Below W1.heap.size W1 W2 := by rw [← hW2]; exact (Below.refl _ _).alloc (Nat.le_refl _) _
  have s1 : Hid (RowV 46 W1 (w.heap.size) [.slice tq tn tc, .slice pq pn pc, .slice bq bn bc, .slice (some A) mn mc, .bool o]) := by
    show RowV _ _ _ _
    rw [← hW1]
    exact s0.out.set 1 (.slice pq pn pc)
  have q2 := Lib.hid ((q0.out.kept hg1 (by omega)).below hb2)
  have z2 := Lib.hid ((z0.out.kept hg1 (by omega)).below hb2)
  have a2 := Lib.hid ((a0.out.kept hg1 (by omega)).below hb2)
  have b1_ := b0.out.grown hg1 b0.out.size (fun k hk => by cases hk; exact Nat.le_refl _)
  have b2 := Lib.hid (b1_.trans (hb2.mono b1_.size))
  have s2 := Lib.hid (s1.out.below hb2)
  have own := Lib.hid (OwnS.empty (α := SlV) hW2 rfl)
  have hW1s : W1.heap.size = w.heap.size + 4 := by rw [← hW1]; simp [World.setCell]; exact hsz.out
  have hfr2 := Lib.hid (hfr.out.below b2.out (Nat.le_refl _))
  have qc7 : W1.cell? ⟨w.heap.size + 1, 7, none⟩ = some (.int .i64 ((k : Int) + 1)) := (q0.out.kept hg1 (by omega)).cell 7
  have tc3 : W2.cell? ⟨w.heap.size, 3, none⟩ = some (.slice (some A) mn mc) := s2.out.cell 3
  have rc7 : W2.cell? ⟨w.heap.size + 1, 7, none⟩ = some (.int .i64 ((k : Int) + 1)) := q2.out.cell 7
  have hle2 : w.heap.size + 4 ≤ W2.heap.size := by rw [← hW1s]; exact hb2.size
  have own : Hid (OwnS 25 W2 (w.heap.size + 4) (.slice (some ⟨w.heap.size + 4, 0, none⟩) 0 0) ([] : List SlV)) := by rw [← hW1s]; exact own.out
  clear hg1 hb2 b1_ s0 q0 z0 a0 b0 s1 hfr
  go_enter Try.func25, Try.ntmps25
  go_wp2_with (first
    | (at_builtin
       refine wpList_append_l Try.underlying44 infoSl rfl rfl (.tmp 50) (.tmp 55) rfl rfl rfl own.out hfr2.out (by omega) (by omega) hle2 ?_
       intro q1 c1 w3 h1 h2 h3
       rw [Nat.zero_add, List.nil_append] at h1
       rw [Nat.zero_add]
       have own1 := Lib.hid h1
       have hg3 : W2.grownBy w3 (some (w.heap.size + 4)) := h2
       have s3 := Lib.hid (s2.out.kept hg3 (by omega))
       have z3 := Lib.hid (z2.out.kept hg3 (by omega))
       have a3 := Lib.hid (a2.out.kept hg3 (by omega))
       have b3 := Lib.hid (b2.out.grown hg3 b2.out.size (fun k hk => by cases hk; omega))
       clear h1 h2 h3 hg3 s2 q2 z2 a2 b2
       have sc0 : w3.cell? ⟨w.heap.size, 0, none⟩ = some (.slice tq tn tc) := s3.out.cell 0
       have sf0 := s3.out.free 0
       have sc1 : w3.cell? ⟨w.heap.size, 1, none⟩ = some (.slice pq pn pc) := s3.out.cell 1
       have sf1 := s3.out.free 1
       have sc2 : w3.cell? ⟨w.heap.size, 2, none⟩ = some (.slice bq bn bc) := s3.out.cell 2
       have sf2 := s3.out.free 2
       have sc3 : w3.cell? ⟨w.heap.size, 3, none⟩ = some (.slice (some A) mn mc) := s3.out.cell 3
       have sf3 := s3.out.free 3
       have sc4 : w3.cell? ⟨w.heap.size, 4, none⟩ = some (.bool o) := s3.out.cell 4
       have sf4 := s3.out.free 4
       have zc0 : w3.cell? ⟨w.heap.size + 2, 0, none⟩ = some (.slice none 0 0) := z3.out.cell 0
       have zf0 := z3.out.free 0
       have zc1 : w3.cell? ⟨w.heap.size + 2, 1, none⟩ = some (.slice none 0 0) := z3.out.cell 1
       have zf1 := z3.out.free 1
       have zc2 : w3.cell? ⟨w.heap.size + 2, 2, none⟩ = some (.slice none 0 0) := z3.out.cell 2
       have zf2 := z3.out.free 2
       have zc3 : w3.cell? ⟨w.heap.size + 2, 3, none⟩ = some (.slice none 0 0) := z3.out.cell 3
       have zf3 := z3.out.free 3
       have zc4 : w3.cell? ⟨w.heap.size + 2, 4, none⟩ = some (.bool false) := z3.out.cell 4
       have zf4 := z3.out.free 4
       have ac0 : w3.cell? ⟨w.heap.size + 3, 0, none⟩ = some (.int .i64 0) := a3.out.cell 0
       have af0 := a3.out.free 0
       have ac1 : w3.cell? ⟨w.heap.size + 3, 1, none⟩ = some (.slice none 0 0) := a3.out.cell 1
       have af1 := a3.out.free 1
       have ac2 : w3.cell? ⟨w.heap.size + 3, 2, none⟩ = some (.int .i64 0) := a3.out.cell 2
       have af2 := a3.out.free 2
       obtain ⟨Z, hZ⟩ : ∃ Z, (((((((((w3.setCell ⟨w.heap.size, 3, none⟩ (.slice q1 (k + 1) c1)).setCell ⟨w.heap.size + 2, 0, none⟩ (.slice tq tn tc)).setCell ⟨w.heap.size + 2, 1, none⟩ (.slice pq pn pc)).setCell ⟨w.heap.size + 2, 2, none⟩ (.slice bq bn bc)).setCell ⟨w.heap.size + 2, 3, none⟩ (.slice q1 (k + 1) c1)).setCell ⟨w.heap.size + 2, 4, none⟩ (.bool o)).setCell ⟨w.heap.size + 3, 0, none⟩ (.int .i64 0)).setCell ⟨w.heap.size + 3, 1, none⟩ (.slice none 0 0)).setCell ⟨w.heap.size + 3, 2, none⟩ (.int .i64 0)) = Z := ⟨_, rfl⟩
       have zZ : Hid (RowV 46 Z (w.heap.size + 2) [.slice tq tn tc, .slice pq pn pc, .slice bq bn bc, .slice q1 (k + 1) c1, .bool o]) := by
         show RowV _ _ _ _
         rw [← hZ]
         exact (((((((((z3.out.kept (setCell_grown _ _ _ _) (by omega)).set 0 (.slice tq tn tc)).set 1 (.slice pq pn pc)).set 2 (.slice bq bn bc)).set 3 (.slice q1 (k + 1) c1)).set 4 (.bool o)).kept (setCell_grown _ _ _ _) (by omega)).kept (setCell_grown _ _ _ _) (by omega)).kept (setCell_grown _ _ _ _) (by omega))
       have aZ : Hid (RowV 35 Z (w.heap.size + 3) [.int .i64 0, .slice none 0 0, .int .i64 0]) := by
         show RowV _ _ _ _
         rw [← hZ]
         exact (((((((((a3.out.kept (setCell_grown _ _ _ _) (by omega)).kept (setCell_grown _ _ _ _) (by omega)).kept (setCell_grown _ _ _ _) (by omega)).kept (setCell_grown _ _ _ _) (by omega)).kept (setCell_grown _ _ _ _) (by omega)).kept (setCell_grown _ _ _ _) (by omega)).set 0 (.int .i64 0)).set 1 (.slice none 0 0)).set 2 (.int .i64 0))
       have bZ : Hid (Below w.heap.size w Z) := by
         show Below _ _ _
         rw [← hZ]
         exact (bset (bset (bset (bset (bset (bset (bset (bset (bset ⟨b3.out, by have := hsz.out; have := b3.out.size; omega⟩ (by omega)) (by omega)) (by omega)) (by omega)) (by omega)) (by omega)) (by omega)) (by omega)) (by omega)).1
       have hgs : ∀ (u : World) (j : Nat) (v : Value) (cs : List Value) (T : TypeId) (b : Nat), 25 ≠ T → RowV T u b cs → OwnS 25 u (w.heap.size + 4) (.slice q1 (k + 1) c1) (vs.take (k + 1)) → OwnS 25 (u.setCell ⟨b, j, none⟩ v) (w.heap.size + 4) (.slice q1 (k + 1) c1) (vs.take (k + 1)) := fun u j v cs T b hT hR hO => hO.gt (setCell_grown _ _ _ _) hR hT
       have mZ : Hid (OwnS 25 Z (w.heap.size + 4) (.slice q1 (k + 1) c1) (vs.take (k + 1))) := by
         show OwnS _ _ _ _ _
         rw [← hZ]
         have x0 := hgs _ 3 (.slice q1 (k + 1) c1) _ _ _ (by decide) s3.out own1.out
         have x1 := hgs _ 0 (.slice tq tn tc) _ _ _ (by decide) (z3.out.kept (setCell_grown w3 (w.heap.size) 3 (.slice q1 (k + 1) c1)) (by omega)) x0
         have x2 := hgs _ 1 (.slice pq pn pc) _ _ _ (by decide) ((z3.out.kept (setCell_grown w3 (w.heap.size) 3 (.slice q1 (k + 1) c1)) (by omega)).set 0 (.slice tq tn tc)) x1
         have x3 := hgs _ 2 (.slice bq bn bc) _ _ _ (by decide) (((z3.out.kept (setCell_grown w3 (w.heap.size) 3 (.slice q1 (k + 1) c1)) (by omega)).set 0 (.slice tq tn tc)).set 1 (.slice pq pn pc)) x2
         have x4 := hgs _ 3 (.slice q1 (k + 1) c1) _ _ _ (by decide) ((((z3.out.kept (setCell_grown w3 (w.heap.size) 3 (.slice q1 (k + 1) c1)) (by omega)).set 0 (.slice tq tn tc)).set 1 (.slice pq pn pc)).set 2 (.slice bq bn bc)) x3
         have x5 := hgs _ 4 (.bool o) _ _ _ (by decide) (((((z3.out.kept (setCell_grown w3 (w.heap.size) 3 (.slice q1 (k + 1) c1)) (by omega)).set 0 (.slice tq tn tc)).set 1 (.slice pq pn pc)).set 2 (.slice bq bn bc)).set 3 (.slice q1 (k + 1) c1)) x4
         have x6 := hgs _ 0 (.int .i64 0) _ _ _ (by decide) ((((((a3.out.kept (setCell_grown w3 (w.heap.size) 3 (.slice q1 (k + 1) c1)) (by omega)).kept (setCell_grown _ _ _ _) (by omega)).kept (setCell_grown _ _ _ _) (by omega)).kept (setCell_grown _ _ _ _) (by omega)).kept (setCell_grown _ _ _ _) (by omega)).kept (setCell_grown _ _ _ _) (by omega)) x5
         have x7 := hgs _ 1 (.slice none 0 0) _ _ _ (by decide) (((((((a3.out.kept (setCell_grown w3 (w.heap.size) 3 (.slice q1 (k + 1) c1)) (by omega)).kept (setCell_grown _ _ _ _) (by omega)).kept (setCell_grown _ _ _ _) (by omega)).kept (setCell_grown _ _ _ _) (by omega)).kept (setCell_grown _ _ _ _) (by omega)).kept (setCell_grown _ _ _ _) (by omega)).set 0 (.int .i64 0)) x6
         have x8 := hgs _ 2 (.int .i64 0) _ _ _ (by decide) ((((((((a3.out.kept (setCell_grown w3 (w.heap.size) 3 (.slice q1 (k + 1) c1)) (by omega)).kept (setCell_grown _ _ _ _) (by omega)).kept (setCell_grown _ _ _ _) (by omega)).kept (setCell_grown _ _ _ _) (by omega)).kept (setCell_grown _ _ _ _) (by omega)).kept (setCell_grown _ _ _ _) (by omega)).set 0 (.int .i64 0)).set 1 (.slice none 0 0)) x7
         exact x8
       clear hgs s3 z3 a3 b3 own1))
  have m0 := zZ.out.cell 0
  have m1 := zZ.out.cell 1
  have m2 := zZ.out.cell 2
  have m3 := zZ.out.cell 3
  have m4 := zZ.out.cell 4
  have n0 := aZ.out.cell 0
  have n1 := aZ.out.cell 1
  have n2 := aZ.out.cell 2
  simp only [List.getElem?_cons_zero, List.getElem?_cons_succ] at m0 m1 m2 m3 m4 n0 n1 n2
  refine bodyPost_ret (v := .tuple #[.agg #[.slice tq tn tc, .slice pq pn pc, .slice bq bn bc, .slice q1 (k + 1) c1, .bool o], .agg #[.int .i64 0, .slice none 0 0, .int .i64 0]]) (by simp [results, Try.results25, go_sem, m0, m1, m2, m3, m4, n0, n1, n2]) rfl ?_
  have hz := hx'.out.below bZ.out (Nat.le_refl _)
  refine ⟨(⟨tq, tn, tc, pq, pn, pc, bq, bn, bc, q1, k + 1, c1, o⟩ : SV), (⟨0, none, 0, 0, 0⟩ : AV), rfl, ⟨hz.sch, hz.sok, ?_, hz.begun, ?_, hz.over⟩, rfl, rfl, RowsOn.none_ _, bZ.out⟩
  · obtain ⟨lk, hlk⟩ : ∃ lk, x.marks[k]? = some lk := ⟨_, List.getElem?_eq_getElem (by have := hmn'.out; omega)⟩
    show RowsOn Z pq pn pc ((x.marks[k]?).getD [])
    rw [hlk]
    exact (hve2.out k _ lk hp'.out hlk).below bZ.out (Nat.le_refl _)
  · refine ⟨vs.take (k + 1), mZ.out.reads, by rw [List.length_take, List.length_take, hvl'.out], fun i v l a b => ?_⟩
    rw [List.getElem?_take] at a b
    split at a
    · rename_i hi
      rw [if_pos hi] at b
      exact (hve2.out i v l a b).below bZ.out (Nat.le_refl _)
    · cases a
theorem do_step {bs : List BdD} {l : List RowD} {q : ReqD} (hc : chkList bs l = 0) (hr : reqB bs q = true) (hk8 : q.k ≤ 8) : doM bs l q = ((stepW (aloneS bs l) q).1.rows, (stepW (aloneS bs l) q).2) := by
  unfold doM
  rw [if_neg (by simpa using hc), if_neg (by rw [hr]; simpa using hk8)]
set_option maxHeartbeats 4000000 in
theorem sd_do (tq : Option Addr) (tn tc : Nat) (rq : Option Addr) (rn rc : Nat) (bq : Option Addr) (bn bc : Nat) (mq : Option Addr) (mn mc : Nat) (o : Bool) (qk : Int) (kt ki tt ti qv : Int) (qs : ByteArray) (qn : Int) (x : SerD) (w : World) (hx : (⟨tq, tn, tc, rq, rn, rc, bq, bn, bc, mq, mn, mc, o⟩ : SV).On w x) (hs : serB x = true) (hq : ReqOk ⟨qk, ⟨kt, ki⟩, ⟨tt, ti⟩, qv, qs, qn⟩) (hrq : reqB x.bs ⟨qk, ⟨kt, ki⟩, ⟨tt, ti⟩, qv, qs, qn⟩ = true) (h8 : qk ≤ 8) :
    Calls Try.prog 25 #[.agg #[.slice tq tn tc, .slice rq rn rc, .slice bq bn bc, .slice mq mn mc, .bool o], .agg #[.int .i64 qk, .int .i64 kt, .int .u16 ki, .int .i64 tt, .int .u16 ti, .int .i64 qv, .string qs, .int .i64 qn]] w (SsPost (stepW x ⟨qk, ⟨kt, ki⟩, ⟨tt, ti⟩, qv, qs, qn⟩) w) := by
  obtain ⟨W, hW⟩ : ∃ W, (((w.alloc (.cells #[.slice tq tn tc, .slice rq rn rc, .slice bq bn bc, .slice mq mn mc, .bool o] 46)).alloc (.cells #[.int .i64 qk, .int .i64 kt, .int .u16 ki, .int .i64 tt, .int .u16 ti, .int .i64 qv, .string qs, .int .i64 qn] 30)).alloc (.cells #[.slice none 0 0, .slice none 0 0, .slice none 0 0, .slice none 0 0, .bool false] 46)).alloc (.cells #[.int .i64 0, .slice none 0 0, .int .i64 0] 35) = W := ⟨_, rfl⟩
  have hbx := Lib.hid (four_rowsI (xs := [.slice tq tn tc, .slice rq rn rc, .slice bq bn bc, .slice mq mn mc, .bool o]) (ys := [.int .i64 qk, .int .i64 kt, .int .u16 ki, .int .i64 tt, .int .u16 ti, .int .i64 qv, .string qs, .int .i64 qn]) (zs := [.slice none 0 0, .slice none 0 0, .slice none 0 0, .slice none 0 0, .bool false]) (us := [.int .i64 0, .slice none 0 0, .int .i64 0]) hW)
  have b0 := Lib.hid hbx.out.1
  have s0 := Lib.hid hbx.out.2.1
  have q0 := Lib.hid hbx.out.2.2.1
  have z0 := Lib.hid hbx.out.2.2.2.1
  have a0 := Lib.hid hbx.out.2.2.2.2.1
  have hsz := Lib.hid hbx.out.2.2.2.2.2
  have hx' := Lib.hid hx
  have hs' := Lib.hid hs
  have hq' := Lib.hid hq
  have hrq' := Lib.hid hrq
  have hmn : x.marks.length = mn := hx.marks.len
  have hm8 : mn ≤ 8 := by rw [← hmn]; exact serB_marks hs
  have hmn' := Lib.hid hmn
  clear hx hs hq hrq hbx hmn
  have y0 : W.cell? ⟨w.heap.size + 1, 0, none⟩ = some (.int .i64 qk) := q0.out.cell 0
  have hc : chkList x.bs x.rows = 0 := (serB_iff.1 hs'.out).2.2.1
  have hdr : Hid (stepW x ⟨qk, ⟨kt, ki⟩, ⟨tt, ti⟩, qv, qs, qn⟩ = ({ x with rows := (doM x.bs x.rows ⟨qk, ⟨kt, ki⟩, ⟨tt, ti⟩, qv, qs, qn⟩).1 }, (doM x.bs x.rows ⟨qk, ⟨kt, ki⟩, ⟨tt, ti⟩, qv, qs, qn⟩).2)) := by
    show _ = _
    rw [do_step hc hrq'.out h8]
    exact step_rows ⟨(reqB_kind hrq'.out).1, h8⟩
  rw [hdr.out]
  have n9 : (qk == 9) = false := by simp; omega
  have n10 : (qk == 10) = false := by simp; omega
  have n11 : (qk == 11) = false := by simp; omega
  have n12 : (qk == 12) = false := by simp; omega
  have sc0 : W.cell? ⟨w.heap.size, 0, none⟩ = some (.slice tq tn tc) := s0.out.cell 0
  have sc1 : W.cell? ⟨w.heap.size, 1, none⟩ = some (.slice rq rn rc) := s0.out.cell 1
  have y1 : W.cell? ⟨w.heap.size + 1, 1, none⟩ = some (.int .i64 kt) := q0.out.cell 1
  have y2 : W.cell? ⟨w.heap.size + 1, 2, none⟩ = some (.int .u16 ki) := q0.out.cell 2
  have y3 : W.cell? ⟨w.heap.size + 1, 3, none⟩ = some (.int .i64 tt) := q0.out.cell 3
  have y4 : W.cell? ⟨w.heap.size + 1, 4, none⟩ = some (.int .u16 ti) := q0.out.cell 4
  have y5 : W.cell? ⟨w.heap.size + 1, 5, none⟩ = some (.int .i64 qv) := q0.out.cell 5
  have y6 : W.cell? ⟨w.heap.size + 1, 6, none⟩ = some (.string qs) := q0.out.cell 6
  have y7 : W.cell? ⟨w.heap.size + 1, 7, none⟩ = some (.int .i64 qn) := q0.out.cell 7
  have hxW := hx'.out.below b0.out (Nat.le_refl _)
  have hdo := Lib.hid (refDo_any qk kt ki tt ti qv qs qn tq tn tc x.bs rq rn rc x.rows W (hxW.sch.sch hxW.sok) hxW.rows hc hq'.out hrq'.out h8)
  clear hxW
  go_enter Try.func25, Try.ntmps25
  go_wp2_with fail
  clear hW n9 n10 n11 n12 sc0 sc1 y0 y1 y2 y3 y4 y5 y6 y7
  refine hdo.out.mono ?_
  rintro e u1 ⟨gq, gn, gc, aq, an, ac, ae, ak, rfl, hg, ha, hae, hak, hb⟩
  obtain ⟨V, hV⟩ : ∃ V, u1.alloc (.cells #[.int .i64 ae, .slice aq an ac, .int .i64 ak] 35) = V := ⟨_, rfl⟩
  have hbx := one_rowI (xs := [.int .i64 ae, .slice aq an ac, .int .i64 ak]) hV
  have hbV := hb.trans (hbx.1.mono hb.size)
  have s1 := Lib.hid (s0.out.below hbV)
  have z1 := Lib.hid (z0.out.below hbV)
  have a1 := Lib.hid (a0.out.below hbV)
  have b1 := Lib.hid (b0.out.trans (hbV.mono b0.out.size))
  have t1 := Lib.hid hbx.2.1
  have r1 := Lib.hid (hg.below hbx.1 (Nat.le_refl _))
  have ea1 := Lib.hid (ha.below hbx.1 (Nat.le_refl _))
  have hae' := Lib.hid hae
  have hak' := Lib.hid hak
  have hu1 : w.heap.size + 4 ≤ u1.heap.size := by have h1 := hb.size; have h2 := hsz.out; omega
  clear hdo hg ha hae hak hb hbx hbV s0 q0 z0 a0 b0
  have sc1 : V.cell? ⟨w.heap.size, 1, none⟩ = some (.slice rq rn rc) := s1.out.cell 1
  have sf1 := s1.out.free 1
  obtain ⟨V2, hV2⟩ : ∃ V2, V.setCell ⟨w.heap.size, 1, none⟩ (.slice gq gn gc) = V2 := ⟨_, rfl⟩
  have hg2 : V.grownBy V2 (some (w.heap.size)) := by rw [← hV2]; exact setCell_grown _ _ _ _
  have s2 : Hid (RowV 46 V2 (w.heap.size) [.slice tq tn tc, .slice gq gn gc, .slice bq bn bc, .slice mq mn mc, .bool o]) := by
    show RowV _ _ _ _
    rw [← hV2]
    exact s1.out.set 1 (.slice gq gn gc)
  have z2 := Lib.hid (z1.out.kept hg2 (by omega))
  have a2 := Lib.hid (a1.out.kept hg2 (by omega))
  have t2 := Lib.hid (t1.out.kept hg2 (by omega))
  have b2 := Lib.hid (b1.out.grown hg2 b1.out.size (fun k hk => by cases hk; exact Nat.le_refl _))
  have r2 := Lib.hid (r1.out.past s1.out (no_ser _ _ _ _ _ _ _ _ _ _ _ _ _) hg2)
  have ea2 := Lib.hid (ea1.out.past s1.out (no_ser _ _ _ _ _ _ _ _ _ _ _ _ _) hg2)
  clear hg2 s1 z1 a1 t1 b1 r1 ea1
  go_wp2
  try clear hV
  refine wp_region_held (S := fun u => RowV 46 u (w.heap.size) [.slice tq tn tc, .slice gq gn gc, .slice bq bn bc, .slice mq mn mc, .bool o] ∧ RowV 35 u u1.heap.size [.int .i64 ae, .slice aq an ac, .int .i64 ak]) (by kernel_rfl) ?_
  change wpAnyH _ _ _ _ _ _ _ _ (World.drew V2)
  have hY0 : Hid (RowV 46 V2.drew (w.heap.size) [.slice tq tn tc, .slice gq gn gc, .slice bq bn bc, .slice mq mn mc, .bool o] ∧ RowV 35 V2.drew u1.heap.size [.int .i64 ae, .slice aq an ac, .int .i64 ak]) := ⟨s2.out, t2.out⟩
  refine held_tk (i := 0) (dst := some 86) (v := .agg #[.slice tq tn tc, .slice gq gn gc, .slice bq bn bc, .slice mq mn mc, .bool o]) rfl rfl (y_load_agg 46 (.tmp 2) rfl rfl rfl (fun u hu => run_loadVar_at Try.underlying46 rfl (sizeSer _ _ _ _ _) _ hu.1.boxed.all)) hY0.out ?_
  go_frame
  refine held_tk (i := 1) (dst := some 87) (v := .agg #[.int .i64 ae, .slice aq an ac, .int .i64 ak]) rfl rfl (y_load_agg 35 (.tmp 7) rfl rfl rfl (fun u hu => run_loadVar_at Try.underlying35 rfl (sizeAns _ _ _) _ hu.2.boxed.all)) hY0.out ?_
  go_frame
  have z7 := Lib.hid (z2.out.below (below_drew V2))
  have a7 := Lib.hid (a2.out.below (below_drew V2))
  have b7 := Lib.hid (b2.out.trans ((below_drew V2).mono b2.out.size))
  have r7 := Lib.hid (r2.out.below (below_drew V2) (Nat.le_refl _))
  have ea7 := Lib.hid (ea2.out.below (below_drew V2) (Nat.le_refl _))
  obtain ⟨uA, hst, h9, hg9⟩ := run_storeVar_at (P := Try.prog) (w := V2.drew) (ty := 46) (o := 0) (vs := [.slice tq tn tc, .slice gq gn gc, .slice bq bn bc, .slice mq mn mc, .bool o]) z7.out (sizeSer _ _ _ _ _) (Nat.le_refl _) (ser_one' _ _ _ _ _ _ _ _ _ _ _ _ _)
  have hYA : Hid ((fun u : World => RowV 46 u (w.heap.size) [.slice tq tn tc, .slice gq gn gc, .slice bq bn bc, .slice mq mn mc, .bool o] ∧ RowV 35 u u1.heap.size [.int .i64 ae, .slice aq an ac, .int .i64 ak]) uA) := ⟨hY0.out.1.kept hg9 (by omega), hY0.out.2.kept hg9 (by omega)⟩
  refine held_skip (i := 2) (dst := none) (w' := uA) rfl rfl (by kernel_rfl) rfl (run_store_op rfl rfl rfl hst) hYA.out ?_
  go_frame
  have zA : Hid (RowV 46 uA (w.heap.size + 2) [.slice tq tn tc, .slice gq gn gc, .slice bq bn bc, .slice mq mn mc, .bool o]) := h9
  have aA := Lib.hid (a7.out.kept hg9 (by omega))
  have bA := Lib.hid (b7.out.grown hg9 b7.out.size (fun k hk => by cases hk; omega))
  
  have rA := Lib.hid (r7.out.past z7.out (no_ser _ _ _ _ _ _ _ _ _ _ _ _ _) hg9)
  have eA := Lib.hid (ea7.out.past z7.out (no_ser _ _ _ _ _ _ _ _ _ _ _ _ _) hg9)
  clear hst h9 hg9
  obtain ⟨uB, hst, h9, hg9⟩ := run_storeVar_at (P := Try.prog) (w := uA) (ty := 35) (o := 0) (vs := [.int .i64 ae, .slice aq an ac, .int .i64 ak]) aA.out (sizeAns _ _ _) (Nat.le_refl _) (ans_one _ _ _ _ _)
  have hYB : Hid ((fun u : World => RowV 46 u (w.heap.size) [.slice tq tn tc, .slice gq gn gc, .slice bq bn bc, .slice mq mn mc, .bool o] ∧ RowV 35 u u1.heap.size [.int .i64 ae, .slice aq an ac, .int .i64 ak]) uB) := ⟨hYA.out.1.kept hg9 (by omega), hYA.out.2.kept hg9 (by omega)⟩
  refine held_skip (i := 3) (dst := none) (w' := uB) rfl rfl (by kernel_rfl) rfl (run_store_op rfl rfl rfl hst) hYB.out ?_
  go_frame
  refine wpAnyH_done (by kernel_rfl) ?_ _
  have aB : Hid (RowV 35 uB (w.heap.size + 3) [.int .i64 ae, .slice aq an ac, .int .i64 ak]) := h9
  have zB := Lib.hid (zA.out.kept hg9 (by omega))
  have bB := Lib.hid (bA.out.grown hg9 bA.out.size (fun k hk => by cases hk; omega))
  
  have rB := Lib.hid (rA.out.past aA.out (no_ans _ _ _ _ _) hg9)
  have eB := Lib.hid (eA.out.past aA.out (no_ans _ _ _ _ _) hg9)
  clear hst h9 hg9 hYA hYB zA aA bA
  clear hY0 s2 t2 z2 a2 b2 r2 ea2
  go_wp2
  have m0 := zB.out.cell 0
  have m1 := zB.out.cell 1
  have m2 := zB.out.cell 2
  have m3 := zB.out.cell 3
  have m4 := zB.out.cell 4
  have n0 := aB.out.cell 0
  have n1 := aB.out.cell 1
  have n2 := aB.out.cell 2
  simp only [List.getElem?_cons_zero, List.getElem?_cons_succ] at m0 m1 m2 m3 m4 n0 n1 n2
  refine bodyPost_ret (v := .tuple #[.agg #[.slice tq tn tc, .slice gq gn gc, .slice bq bn bc, .slice mq mn mc, .bool o], .agg #[.int .i64 ae, .slice aq an ac, .int .i64 ak]]) (by simp [results, Try.results25, go_sem, m0, m1, m2, m3, m4, n0, n1, n2]) rfl ?_
  have hz := hx'.out.below bB.out (Nat.le_refl _)
  exact ⟨(⟨tq, tn, tc, gq, gn, gc, bq, bn, bc, mq, mn, mc, o⟩ : SV), (⟨ae, aq, an, ac, ak⟩ : AV), rfl, ⟨hz.sch, hz.sok, rB.out, hz.begun, hz.marks, hz.over⟩, hae'.out, hak'.out, eB.out, bB.out⟩
theorem refStep_any (tq : Option Addr) (tn tc : Nat) (rq : Option Addr) (rn rc : Nat) (bq : Option Addr) (bn bc : Nat) (mq : Option Addr) (mn mc : Nat) (o : Bool) (qk kt ki tt ti qv : Int) (qs : ByteArray) (qn : Int) (x : SerD) (w : World) (hx : (⟨tq, tn, tc, rq, rn, rc, bq, bn, bc, mq, mn, mc, o⟩ : SV).On w x) (hs : serB x = true) (hq : ReqOk ⟨qk, ⟨kt, ki⟩, ⟨tt, ti⟩, qv, qs, qn⟩) (hrq : reqB x.bs ⟨qk, ⟨kt, ki⟩, ⟨tt, ti⟩, qv, qs, qn⟩ = true) :
    Calls Try.prog 25 #[.agg #[.slice tq tn tc, .slice rq rn rc, .slice bq bn bc, .slice mq mn mc, .bool o], .agg #[.int .i64 qk, .int .i64 kt, .int .u16 ki, .int .i64 tt, .int .u16 ti, .int .i64 qv, .string qs, .int .i64 qn]] w (SsPost (stepW x ⟨qk, ⟨kt, ki⟩, ⟨tt, ti⟩, qv, qs, qn⟩) w) := by
  have hk := reqB_kind hrq
  by_cases h8 : qk ≤ 8
  · exact sd_do tq tn tc rq rn rc bq bn bc mq mn mc o qk kt ki tt ti qv qs qn x w hx hs hq hrq h8
  · have hk2 : qk ≤ 12 := hk.2
    have hc : qk = 9 ∨ qk = 10 ∨ qk = 11 ∨ qk = 12 := by omega
    clear hk hk2 h8
    rcases hc with rfl | rfl | rfl | rfl
    · exact sd_9 tq tn tc rq rn rc bq bn bc mq mn mc o kt ki tt ti qv qs qn x w hx hs hq hrq
    · exact sd_10 tq tn tc rq rn rc bq bn bc mq mn mc o kt ki tt ti qv qs qn x w hx hs hq hrq
    · exact sd_11 tq tn tc rq rn rc bq bn bc mq mn mc o kt ki tt ti qv qs qn x w hx hs hq hrq
    · exact sd_12 tq tn tc rq rn rc bq bn bc mq mn mc o kt ki tt ti qv qs qn x w hx hs hq hrq
end Go.Proofs.Ytkdkncbccofpdaa
