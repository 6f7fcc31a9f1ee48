/- over of the laws on rows, and Of of row and of the document. -/
import Derived.Test.YtaiepdhmlmnggaaYSpl
namespace Go.Proofs.Ytaiepdhmlmnggaa
open Go.RowKit

theorem below_step {W u v : World} (h2 : Below u.heap.size u v) (h : Below W.heap.size W u) : Below W.heap.size W v := h.trans (h2.mono h.size)

def OverPost (w : World) (n ln : Nat) (e : Ending) (w' : World) : Prop := ∃ b, e = .returned (.bool b) ∧ (b = false → n ≤ 20 ∧ ln ≤ 100) ∧ Below w.heap.size w w'

def ofL (l : List RowD) (t : Int) : List RowD := l.filter fun r => r.key.t == t
theorem ofL_ok {l : List RowD} {t : Int} (h : ∀ r ∈ l, RowOk r) : ∀ r ∈ ofL l t, RowOk r := fun r hr => h r (List.mem_filter.1 hr).1
theorem ofL_step {l : List RowD} {t : Int} {k : Nat} {r : RowD} (h : l[k]? = some r) : ofL (l.take (k + 1)) t = if (r.key.t == t) = true then ofL (l.take k) t ++ [r] else ofL (l.take k) t := by
  unfold ofL
  rw [List.take_add_one, h, List.filter_append]
  by_cases hk : (r.key.t == t) = true
  · rw [if_pos hk]; simp [hk]
  · rw [if_neg hk]; simp [hk]
theorem ofL_len (l : List RowD) (t : Int) (k : Nat) : (ofL (l.take k) t).length ≤ k := Nat.le_trans (List.length_filter_le _ _) (by rw [List.length_take]; omega)

def RowsPost (w : World) (L : List RowD) (e : Ending) (w' : World) : Prop := ∃ q' m' c', e = .returned (.slice q' m' c') ∧ OwnR 30 w' w.heap.size (.slice q' m' c') L ∧ RowsOn w' q' m' c' L ∧ Below w.heap.size w w'

def OfRel (w wr : World) (l : List RowD) (t : Int) (k : Nat) (v : Value) : Prop := Below w.heap.size w wr ∧ OwnR 30 wr w.heap.size v (ofL (l.take k) t)

theorem OfRel.hit {w wr W2 w' : World} {l : List RowD} {t : Int} {k : Nat} {q0 q' : Option Addr} {n0 c0 c' : Nat} {r : RowD} (h : OfRel w wr l t k (.slice q0 n0 c0)) (hx : l[k]? = some r) (hk : (r.key.t == t) = true) (hb : Below wr.heap.size wr W2)
    (ho : OwnR 30 w' w.heap.size (.slice q' (n0 + 1) c') (ofL (l.take k) t ++ [r])) (hg : W2.grownBy w' (q0.map (·.block))) : OfRel w w' l t (k + 1) (.slice q' (n0 + 1) c') := by
  refine ⟨?_, by rw [ofL_step hx, if_pos hk]; exact ho⟩
  have h2 := h.1.trans (hb.mono h.1.size)
  exact h2.trans (grown_belowN hg h2.size (fun j hj => by
    cases q0 with
    | none => cases hj
    | some a => cases hj; exact (h.2.far a rfl).1))
theorem OfRel.miss {w wr W2 : World} {l : List RowD} {t : Int} {k : Nat} {q0 : Option Addr} {n0 c0 : Nat} {r : RowD} (h : OfRel w wr l t k (.slice q0 n0 c0)) (hx : l[k]? = some r) (hk : ¬ (r.key.t == t) = true) (hb : Below wr.heap.size wr W2) : OfRel w W2 l t (k + 1) (.slice q0 n0 c0) :=
  ⟨h.1.trans (hb.mono h.1.size), by rw [ofL_step hx, if_neg hk]; exact h.2.below hb⟩

end Go.Proofs.Ytaiepdhmlmnggaa
