/- The methods of ideal by Kind. -/
import Derived.Test.YtkdkncbccofpdaaQ14
namespace Go.Proofs.Ytkdkncbccofpdaa
open Go.RowKit Go.ChangeMaps
set_option maxRecDepth 100000
section
variable {P : Program} {w : World} {q : IntKind} {ops : Array Oper} {rest : List Oper} {o : Oper} {a : Act} {Q : Exit → Act → World → Prop}
/-- an entry of a map that is written out -/
theorem wpList_insert_i (hgd : o.guard = none) (m x v : Operand) (t : TypeId) (hop : o.op = Op.insert t m x v) {kt et : TypeId} (ht : P.underlying t = some (.map kt et)) (hk : P.underlying kt = some (.int q)) {b n : Nat} {f : Int → Option Value} {k : Int} {val : Value}
 (hm : a.eval m = .map (some b)) (hx : a.eval x = .int q k) (hv : a.eval v = val) (h : IMap q w b n f)
 (hK : ∀ w', IMap q w' b (if (f k).isSome then n else n + 1) (fun j => if j = k then some val else f j) → w.grownBy w' (some b) → wpList P ops Q rest (a.put o.dst undef) w') : wpList P ops Q (o :: rest) a w := by
 refine wpList_plain hgd fun K' hK' => ?_
 obtain ⟨w', hrun, r1, r2⟩ := run_update_i h ht hk k val
 unfold Oper.wp
 simp [execOp, hop, hm, hx, hv, hrun, Result.andThen]
 exact hK' _ _ (hK w' r1 r2)
end
def fnW (k g : Nat) : Value := .func (.func k) #[.pointer (some ⟨g, 0, none⟩)] #[]
def kindsF (g : Nat) (j : Int) : Option Value := if j = 12 then some (fnW 81 g) else if j = 11 then some (fnW 80 g) else if j = 10 then some (fnW 79 g) else if j = 9 then some (fnW 78 g) else if j = 8 then some (fnW 77 g) else if j = 7 then some (fnW 76 g) else if j = 6 then some (fnW 75 g) else if j = 5 then some (fnW 74 g) else if j = 4 then some (fnW 73 g) else if j = 3 then some (fnW 72 g) else if j = 2 then some (fnW 71 g) else if j = 1 then some (fnW 70 g) else none
set_option maxHeartbeats 8000000 in
theorem kinds_any (g : Nat) (w : World) :
 Calls Try.prog 61 #[.pointer (some ⟨g, 0, none⟩)] w (fun e w' => ∃ b n, e = .returned (.map (some b)) ∧ IMap .i64 w' b n (kindsF g) ∧ w.heap.size ≤ b ∧ Below w.heap.size w w') := by
 have hmm := @run_makeMap Try.prog
 obtain ⟨W0, hW0⟩ : ∃ W0, w.alloc (.map #[] 0) = W0 := ⟨_, rfl⟩
 have hm0 : Hid (IMap .i64 W0 w.heap.size 0 (fun _ => none)) := by rw [← hW0]; exact IMap.made _ _
 have hb0 : Hid (Below w.heap.size w W0) := by rw [← hW0]; exact (Below.refl _ _).alloc (Nat.le_refl _) _
 go_enter Try.func61, Try.ntmps61
 go_wp2_with (first
  | ((with_reducible refine wpList_insert_i rfl (.tmp 3) (.const (.int .i64 1)) (.tmp 5) 96 rfl Try.underlying96 Try.underlying3 rfl rfl rfl hm0.out ?_)
     intro w1 h1 hg1
     have hm1 := Lib.hid h1
     have hb1 := Lib.hid (Gr.below2 hb0.out hg1 (Nat.le_refl _) hb0.out.size)
     clear h1 hg1)
  | ((with_reducible refine wpList_insert_i rfl (.tmp 3) (.const (.int .i64 2)) (.tmp 7) 96 rfl Try.underlying96 Try.underlying3 rfl rfl rfl hm1.out ?_)
     intro w2 h2 hg2
     have hm2 := Lib.hid h2
     have hb2 := Lib.hid (Gr.below2 hb1.out hg2 (Nat.le_refl _) hb1.out.size)
     clear h2 hg2)
  | ((with_reducible refine wpList_insert_i rfl (.tmp 3) (.const (.int .i64 3)) (.tmp 9) 96 rfl Try.underlying96 Try.underlying3 rfl rfl rfl hm2.out ?_)
     intro w3 h3 hg3
     have hm3 := Lib.hid h3
     have hb3 := Lib.hid (Gr.below2 hb2.out hg3 (Nat.le_refl _) hb2.out.size)
     clear h3 hg3)
  | ((with_reducible refine wpList_insert_i rfl (.tmp 3) (.const (.int .i64 4)) (.tmp 11) 96 rfl Try.underlying96 Try.underlying3 rfl rfl rfl hm3.out ?_)
     intro w4 h4 hg4
     have hm4 := Lib.hid h4
     have hb4 := Lib.hid (Gr.below2 hb3.out hg4 (Nat.le_refl _) hb3.out.size)
     clear h4 hg4)
  | ((with_reducible refine wpList_insert_i rfl (.tmp 3) (.const (.int .i64 5)) (.tmp 13) 96 rfl Try.underlying96 Try.underlying3 rfl rfl rfl hm4.out ?_)
     intro w5 h5 hg5
     have hm5 := Lib.hid h5
     have hb5 := Lib.hid (Gr.below2 hb4.out hg5 (Nat.le_refl _) hb4.out.size)
     clear h5 hg5)
  | ((with_reducible refine wpList_insert_i rfl (.tmp 3) (.const (.int .i64 6)) (.tmp 15) 96 rfl Try.underlying96 Try.underlying3 rfl rfl rfl hm5.out ?_)
     intro w6 h6 hg6
     have hm6 := Lib.hid h6
     have hb6 := Lib.hid (Gr.below2 hb5.out hg6 (Nat.le_refl _) hb5.out.size)
     clear h6 hg6)
  | ((with_reducible refine wpList_insert_i rfl (.tmp 3) (.const (.int .i64 7)) (.tmp 17) 96 rfl Try.underlying96 Try.underlying3 rfl rfl rfl hm6.out ?_)
     intro w7 h7 hg7
     have hm7 := Lib.hid h7
     have hb7 := Lib.hid (Gr.below2 hb6.out hg7 (Nat.le_refl _) hb6.out.size)
     clear h7 hg7)
  | ((with_reducible refine wpList_insert_i rfl (.tmp 3) (.const (.int .i64 8)) (.tmp 19) 96 rfl Try.underlying96 Try.underlying3 rfl rfl rfl hm7.out ?_)
     intro w8 h8 hg8
     have hm8 := Lib.hid h8
     have hb8 := Lib.hid (Gr.below2 hb7.out hg8 (Nat.le_refl _) hb7.out.size)
     clear h8 hg8)
  | ((with_reducible refine wpList_insert_i rfl (.tmp 3) (.const (.int .i64 9)) (.tmp 21) 96 rfl Try.underlying96 Try.underlying3 rfl rfl rfl hm8.out ?_)
     intro w9 h9 hg9
     have hm9 := Lib.hid h9
     have hb9 := Lib.hid (Gr.below2 hb8.out hg9 (Nat.le_refl _) hb8.out.size)
     clear h9 hg9)
  | ((with_reducible refine wpList_insert_i rfl (.tmp 3) (.const (.int .i64 10)) (.tmp 23) 96 rfl Try.underlying96 Try.underlying3 rfl rfl rfl hm9.out ?_)
     intro w10 h10 hg10
     have hm10 := Lib.hid h10
     have hb10 := Lib.hid (Gr.below2 hb9.out hg10 (Nat.le_refl _) hb9.out.size)
     clear h10 hg10)
  | ((with_reducible refine wpList_insert_i rfl (.tmp 3) (.const (.int .i64 11)) (.tmp 25) 96 rfl Try.underlying96 Try.underlying3 rfl rfl rfl hm10.out ?_)
     intro w11 h11 hg11
     have hm11 := Lib.hid h11
     have hb11 := Lib.hid (Gr.below2 hb10.out hg11 (Nat.le_refl _) hb10.out.size)
     clear h11 hg11)
  | ((with_reducible refine wpList_insert_i rfl (.tmp 3) (.const (.int .i64 12)) (.tmp 27) 96 rfl Try.underlying96 Try.underlying3 rfl rfl rfl hm11.out ?_)
     intro w12 h12 hg12
     have hm12 := Lib.hid h12
     have hb12 := Lib.hid (Gr.below2 hb11.out hg12 (Nat.le_refl _) hb11.out.size)
     clear h12 hg12))
 go_ret
 exact ⟨w.heap.size, _, rfl, hm12.out, Nat.le_refl _, hb12.out⟩
/-- what a request comes to, of a transaction that goes on -/
def stepW (x : SerD) (q : ReqD) : SerD × AnsD :=
 if q.k = 1 then readW x q.key else if q.k = 2 then (x, ⟨0, ofL x.rows q.key.t, 0⟩) else if q.k = 3 then insW x q.key q.val q.note
 else if q.k = 4 then layW x (takeE x.bs x.rows q.key, takeL x.bs x.rows q.key) else if q.k = 5 then layW x (becR x.bs x.rows q.key erZ (nwNote q.note))
 else if q.k = 6 then setW x q.key q.val else if q.k = 7 then layW x (becR x.bs x.rows q.key (erPlus q.val) (nwPlus q.val)) else if q.k = 8 then movW x q.key q.to q.val
 else if q.k = 9 then marW x else if q.k = 10 then bakW x (q.n - 1).toNat else if q.k = 11 then comW x else aboW x
structure DoOk (x : SerD) (q : ReqD) : Prop where
 few : Few x
 req : ReqOk q
 kind : 1 ≤ q.k ∧ q.k ≤ 12
 marks : x.marks.length ≤ 8
 move : q.k = 8 → 0 ≤ q.val
 back : q.k = 10 → 1 ≤ q.n
theorem meth_any (g : Nat) (v : SV) (x : SerD) (q : ReqD) (h : DoOk x q) : ∃ F, kindsF g q.k = some (fnW F g) ∧ (∀ args u, (callFunc F args).run Try.prog u = .ok (.enter F args) u) ∧ ∀ w, RowV 94 w g (v.cells ++ q.cells) → v.Own w x → Calls Try.prog F #[.pointer (some ⟨g, 0, none⟩)] w (WkPost g q (stepW x q) w) := by
 obtain ⟨tq, tn, tc, rq, rn, rc, bq, bn, bc, mq, mn, mc, o⟩ := v
 obtain ⟨qk, ⟨kt, ki⟩, ⟨tt, ti⟩, qv, qs, qn⟩ := q
 obtain ⟨hf, hq, hk, hm, hmv, hbk⟩ := h
 have hk' : 1 ≤ qk ∧ qk ≤ 12 := hk
 have hc : qk = 1 ∨ qk = 2 ∨ qk = 3 ∨ qk = 4 ∨ qk = 5 ∨ qk = 6 ∨ qk = 7 ∨ qk = 8 ∨ qk = 9 ∨ qk = 10 ∨ qk = 11 ∨ qk = 12 := by omega
 clear hk hk'
 rcases hc with rfl | rfl | rfl | rfl | rfl | rfl | rfl | rfl | rfl | rfl | rfl | rfl
 · exact ⟨70, rfl, fun _ _ => rfl, fun w hg hx => read_any g tq tn tc rq rn rc bq bn bc mq mn mc o (1 : Int) kt ki tt ti qv qs qn x w hg hx hf⟩
 · exact ⟨71, rfl, fun _ _ => rfl, fun w hg hx => scan_any g tq tn tc rq rn rc bq bn bc mq mn mc o (2 : Int) kt ki tt ti qv qs qn x w hg hx hf⟩
 · exact ⟨72, rfl, fun _ _ => rfl, fun w hg hx => ins_any g tq tn tc rq rn rc bq bn bc mq mn mc o (3 : Int) kt ki tt ti qv qs qn x w hg hx hf hq⟩
 · exact ⟨73, rfl, fun _ _ => rfl, fun w hg hx => rem_any g tq tn tc rq rn rc bq bn bc mq mn mc o (4 : Int) kt ki tt ti qv qs qn x w hg hx hf⟩
 · exact ⟨74, rfl, fun _ _ => rfl, fun w hg hx => note_any g tq tn tc rq rn rc bq bn bc mq mn mc o (5 : Int) kt ki tt ti qv qs qn x w hg hx hf hq⟩
 · exact ⟨75, rfl, fun _ _ => rfl, fun w hg hx => set_any g tq tn tc rq rn rc bq bn bc mq mn mc o (6 : Int) kt ki tt ti qv qs qn x w hg hx hf hq⟩
 · exact ⟨76, rfl, fun _ _ => rfl, fun w hg hx => add_any g tq tn tc rq rn rc bq bn bc mq mn mc o (7 : Int) kt ki tt ti qv qs qn x w hg hx hf hq⟩
 · exact ⟨77, rfl, fun _ _ => rfl, fun w hg hx => mov_any g tq tn tc rq rn rc bq bn bc mq mn mc o (8 : Int) kt ki tt ti qv qs qn x w hg hx hf hq (hmv rfl)⟩
 · exact ⟨78, rfl, fun _ _ => rfl, fun w hg hx => mar_any g tq tn tc rq rn rc bq bn bc mq mn mc o (9 : Int) kt ki tt ti qv qs qn x w hg hx hf hm⟩
 · have h1 : 1 ≤ qn := hbk rfl
   have h2 : qn < 9223372036854775808 := hq.n.2
   obtain ⟨k, rfl⟩ : ∃ k : Nat, qn = (k : Int) + 1 := ⟨(qn - 1).toNat, by omega⟩
   refine ⟨79, rfl, fun _ _ => rfl, fun w hg hx => ?_⟩
   have e : stepW x ⟨10, ⟨kt, ki⟩, ⟨tt, ti⟩, qv, qs, (k : Int) + 1⟩ = bakW x k := by
    show bakW x ((k : Int) + 1 - 1).toNat = _
    congr 1
    omega
   rw [e]
   exact bak_any g tq tn tc rq rn rc bq bn bc mq mn mc o 10 kt ki tt ti qv qs k x w hg hx hf hm (by omega)
 · exact ⟨80, rfl, fun _ _ => rfl, fun w hg hx => com_any g tq tn tc rq rn rc bq bn bc mq mn mc o (11 : Int) kt ki tt ti qv qs qn x w hg hx⟩
 · exact ⟨81, rfl, fun _ _ => rfl, fun w hg hx => abo_any g tq tn tc rq rn rc bq bn bc mq mn mc o (12 : Int) kt ki tt ti qv qs qn x w hg hx hf⟩
end Go.Proofs.Ytkdkncbccofpdaa
