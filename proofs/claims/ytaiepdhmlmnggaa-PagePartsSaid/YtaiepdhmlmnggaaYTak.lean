/- Take of row. -/
import Derived.Test.YtaiepdhmlmnggaaYSam
import Derived.OrdersHeld
import Derived.Maps.RangeWalk
namespace Go.Proofs.Ytaiepdhmlmnggaa
open Go.RowKit

def zeroR : RowD := ⟨⟨0, 0⟩, 0, ⟨#[]⟩⟩
def rowV (r : RowD) : Value := .agg #[.int .i64 r.key.t, .int .u16 r.key.id, .int .i64 r.val, .string r.note]

theorem run_store_op {P : Program} {o : Oper} {a : Act} {w w' : World} {ty : TypeId} {x y : Operand} {ad : Addr} {v : Value} (ho : o.op = .store ty x y) (hx : a.eval x = .pointer (some ad)) (hy : a.eval y = v) (h : (storeVar ty ad v).run P w = .ok () w') : (execOp a.eval o).run P w = .ok .skip w' := by
  subst hy
  unfold execOp
  simp only [ho, hx, Instr.storeAt, Instr.sureAddr, Sem.run_bind, Sem.run_pure, Result.andThen_ok, h]

theorem block_add (a : Addr) (n : Nat) : (a.add n).block = a.block := by unfold Addr.add; split <;> rfl

theorem RowsOn.other {w w' : World} {q : Option Addr} {n c g : Nat} {l : List RowD} (h : RowsOn w q n c l) (hg : w.grownBy w' (some g)) (hne : ∀ a, q = some a → a.block ≠ g) : RowsOn w' q n c l :=
  ⟨h.len, h.le, h.cap, h.nil, fun i r hi => by
    obtain ⟨a, rfl, hc⟩ := h.get i r hi
    refine ⟨a, rfl, fun j x hj => ?_⟩
    have h1 := hc j x hj
    rw [World.cell?_of_block (w := w) (hg.block _ (cell_in h1) (fun e => hne a rfl (by simpa [block_add] using e)))]
    exact h1, h.ok⟩

theorem three_boxes {w W : World} {T1 T2 T3 : TypeId} {xs ys zs : List Value} (h : ((w.alloc (.cells xs.toArray T1)).alloc (.cells ys.toArray T2)).alloc (.cells zs.toArray T3) = W) : Below w.heap.size w W ∧ Boxed W w.heap.size xs ∧ Boxed W (w.heap.size + 1) ys ∧ RowV T3 W (w.heap.size + 2) zs ∧ W.heap.size = w.heap.size + 3 := by
  obtain ⟨W2, h2⟩ : ∃ W2, (w.alloc (.cells xs.toArray T1)).alloc (.cells ys.toArray T2) = W2 := ⟨_, rfl⟩
  obtain ⟨b1, b2, b3, b4⟩ := two_boxes h2
  rw [h2] at h
  subst h
  have hb : Below W2.heap.size W2 (W2.alloc (.cells zs.toArray T3)) := (Below.refl _ _).alloc (Nat.le_refl _) _
  refine ⟨b1.trans (hb.mono b1.size), b2.below hb (Nat.le_refl _), b3.below hb (Nat.le_refl _), ?_, by simp [b4]⟩
  rw [← b4]
  exact RowV.made W2 zs

end Go.Proofs.Ytaiepdhmlmnggaa
