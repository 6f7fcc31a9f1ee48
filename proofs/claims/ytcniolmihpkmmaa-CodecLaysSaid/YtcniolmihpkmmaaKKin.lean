/- The reader of codec: which reading belongs to which Kind. -/
import Derived.Test.YtcniolmihpkmmaaKPart
import Derived.Test.YtcniolmihpkmmaaMaps
namespace Go.Proofs.Ytcniolmihpkmmaa
open Go.RowKit Go.ChangeMaps

section
variable {P : Program} {w : World} {q : IntKind} {ops : Array Oper} {rest : List Oper} {o : Oper} {a : Act} {Q : Exit → Act → World → Prop}
/-- an entry of a map that is written out -/
theorem wpList_insert_i (hgd : o.guard = none) (m x v : Operand) (t : TypeId) (hop : o.op = Op.insert t m x v) {kt et : TypeId} (ht : P.underlying t = some (.map kt et)) (hk : P.underlying kt = some (.int q)) {b n : Nat} {f : Int → Option Value} {k : Int} {val : Value}
    (hm : a.eval m = .map (some b)) (hx : a.eval x = .int q k) (hv : a.eval v = val) (h : IMap q w b n f)
    (hK : ∀ w', IMap q w' b (if (f k).isSome then n else n + 1) (fun j => if j = k then some val else f j) → w.grownBy w' (some b) → wpList P ops Q rest (a.put o.dst undef) w') : wpList P ops Q (o :: rest) a w := by
  refine wpList_plain hgd fun K' hK' => ?_
  obtain ⟨w', hrun, r1, r2⟩ := run_update_i h ht hk k val
  unfold Oper.wp
  simp [execOp, hop, hm, hx, hv, hrun, Result.andThen]
  exact hK' _ _ (hK w' r1 r2)
end

def fnR (k g : Nat) : Value := .func (.func k) #[.agg #[.pointer (some ⟨g, 0, none⟩)]] #[]
def kindsF (g : Nat) (j : Int) : Option Value := if j = 2 then some (fnR 64 g) else if j = 1 then some (fnR 63 g) else if j = 0 then some (fnR 62 g) else none

set_option maxRecDepth 100000 in
set_option maxHeartbeats 2000000 in
theorem kinds_any (g : Nat) (w : World) :
    Calls Try.prog 50 #[.agg #[.pointer (some ⟨g, 0, none⟩)]] w (fun e w' => ∃ b, e = .returned (.map (some b)) ∧ IMap .i64 w' b 3 (kindsF g) ∧ Below w.heap.size w w') := by
  obtain ⟨W, hW⟩ : ∃ W, w.alloc (.cells #[.pointer (some ⟨g, 0, none⟩)] 73) = W := ⟨_, rfl⟩
  have hbx := Lib.hid (one_box (xs := [.pointer (some ⟨g, 0, none⟩)]) hW)
  have hs1 := sizeRd (.pointer (some ⟨g, 0, none⟩))
  have hmm := @run_makeMap Try.prog
  obtain ⟨W2, hW2⟩ : ∃ W2, W.alloc (.map #[] 0) = W2 := ⟨_, rfl⟩
  have hm0 : Hid (IMap .i64 W2 W.heap.size 0 (fun _ => none)) := by rw [← hW2]; exact IMap.made _ _
  have hb2 : Hid (Below W.heap.size W W2) := by rw [← hW2]; exact (Below.refl _ _).alloc (Nat.le_refl _) _
  have e2 := Lib.hid (hbx.out.2.1.below hb2.out (Nat.le_refl _))
  have hlt : w.heap.size < W.heap.size := by have := hbx.out.2.2; omega
  go_enter Try.func50, Try.ntmps50
  go_wp2_with (first
    | (with_reducible refine wpList_load_at rfl 73 (.tmp 1) rfl Try.underlying73 rfl hs1 rfl e2.out.all ?_)
    | ((with_reducible refine wpList_insert_i rfl (.tmp 3) (.const (.int .i64 0)) (.tmp 5) 89 rfl Try.underlying89 Try.underlying3 rfl rfl rfl hm0.out ?_)
       intro w3 h3 hg3
       have hm3 := Lib.hid h3
       have hg3' := Lib.hid hg3
       have e3 := Lib.hid (e2.out.gr hg3 (by omega))
       clear h3 hg3)
    | (with_reducible refine wpList_load_at rfl 73 (.tmp 1) rfl Try.underlying73 rfl hs1 rfl e3.out.all ?_)
    | ((with_reducible refine wpList_insert_i rfl (.tmp 3) (.const (.int .i64 1)) (.tmp 7) 89 rfl Try.underlying89 Try.underlying3 rfl rfl rfl hm3.out ?_)
       intro w4 h4 hg4
       have hm4 := Lib.hid h4
       have hg4' := Lib.hid hg4
       have e4 := Lib.hid (e3.out.gr hg4 (by omega))
       clear h4 hg4)
    | (with_reducible refine wpList_load_at rfl 73 (.tmp 1) rfl Try.underlying73 rfl hs1 rfl e4.out.all ?_)
    | ((with_reducible refine wpList_insert_i rfl (.tmp 3) (.const (.int .i64 2)) (.tmp 9) 89 rfl Try.underlying89 Try.underlying3 rfl rfl rfl hm4.out ?_)
       intro w5 h5 hg5
       have hm5 := Lib.hid h5
       have hg5' := Lib.hid hg5
       clear h5 hg5))
  go_ret
  refine ⟨_, rfl, ?_, ?_⟩
  · exact hm5.out
  · have h3 := Gr.trans (Gr.trans hg3'.out hg4'.out) hg5'.out
    exact Gr.below h3 (hbx.out.1.trans (hb2.out.mono hbx.out.1.size)) (by omega)
end Go.Proofs.Ytcniolmihpkmmaa
