/- Two operations of a region that may come in either order, a call and one that gives a value: both orders end alike. Nothing of a program is claimed here. -/
import Derived.Test.YtkdkncbccofpdaaHeld
namespace Go.Proofs.Ytkdkncbccofpdaa
open Go.RowKit

section
variable {P : Program} {ops : Array Oper} {Q : Exit → Act → World → Prop} {md : Region.Mode} {S : World → Prop}

theorem held_pair {i j : Nat} {oi oj : Oper} {di dj : Option Tmp} (hdi : oi.dst = di) (hdj : oj.dst = dj) {fuel : Nat} {listed : Array Bool} {a : Act} {w : World} {f : FuncId} {args : Array Value} {Z : Value → Value → World → Prop}
    (hi : ops[i]? = some oi) (hj : ops[j]? = some oj) (hr : Region.ready md ops listed = [i, j])
    (hri : Region.ready md ops (listed.setIfInBounds i true) = [j]) (hrj : Region.ready md ops (listed.setIfInBounds j true) = [i])
    (hl : (listed.setIfInBounds j true).setIfInBounds i true = (listed.setIfInBounds i true).setIfInBounds j true)
    (hwi : Region.wanted oi (yielded ops a.tmps) = true) (hwj : Region.wanted oj (yielded ops a.tmps) = true)
    (hwi2 : ∀ u, Region.wanted oi (yielded ops (a.put dj u).tmps) = true) (hwj2 : ∀ v, Region.wanted oj (yielded ops (a.put di v).tmps) = true)
    (hcomm : ∀ v u, (a.put dj u).put di v = (a.put di v).put dj u)
    {R : Ending → World → Prop} (hrun : (execOp a.eval oi).run P w = .ok (.enter f args) w) (hc : Calls P f args w R)
    (h1 : ∀ e w', R e w' → ∃ v u w'', e = .returned v ∧ S w' ∧ (execOp (a.put di v).eval oj).run P w' = .ok (.value u) w'' ∧ S w'' ∧ Z v u w'')
    (h2 : ∃ u w' R', (execOp a.eval oj).run P w = .ok (.value u) w' ∧ S w' ∧ (execOp (a.put dj u).eval oi).run P w' = .ok (.enter f args) w' ∧ Calls P f args w' R' ∧ ∀ e w'', R' e w'' → ∃ v, e = .returned v ∧ S w'' ∧ Z v u w'')
    (h : ∀ v u W, Z v u W → wpAnyH P md ops Q S fuel ((listed.setIfInBounds i true).setIfInBounds j true) ((a.put di v).put dj u) W) :
    wpAnyH P md ops Q S (fuel + 2) listed a w := by
  refine wpAnyH_all hr (by simp) (fun k hk => ?_)
  rcases List.mem_cons.1 hk with rfl | hk
  · unfold wpOp
    simp only [hi, hwi, if_true]
    refine .inl ?_
    unfold Oper.wp
    rw [hrun, Oper.upon_enter]
    refine hc.mono fun e w' he => ?_
    obtain ⟨v, u, w'', rfl, hS, hrunj, hS2, hZ⟩ := h1 e w' he
    subst hdi
    refine ⟨hS, ?_⟩
    exact held_value hdj hj hri (hwj2 v) hrunj hS2 (h v u w'' hZ)
  · rw [List.mem_singleton.1 hk]
    unfold wpOp
    simp only [hj, hwj, if_true]
    refine .inl ?_
    obtain ⟨u, w', R', hrunj, hS, hruni, hc', hz⟩ := h2
    unfold Oper.wp
    rw [hrunj, Oper.upon_value]
    subst hdj
    refine ⟨hS, ?_⟩
    refine held_call hdi hi hrj (hwi2 u) hruni hc' (fun e w'' he => ?_)
    obtain ⟨v, rfl, hS2, hZ⟩ := hz e w'' he
    refine ⟨v, rfl, hS2, ?_⟩
    rw [hl, hcomm]
    exact h v u w'' hZ

theorem held_pair2 {i j : Nat} {oi oj : Oper} {di dj : Option Tmp} (hdi : oi.dst = di) (hdj : oj.dst = dj) {fuel : Nat} {listed : Array Bool} {a : Act} {w : World} {f : FuncId} {args : Array Value} {Z : Value → Value → World → Prop}
    (hi : ops[i]? = some oi) (hj : ops[j]? = some oj) (hr : Region.ready md ops listed = [j, i])
    (hri : Region.ready md ops (listed.setIfInBounds i true) = [j]) (hrj : Region.ready md ops (listed.setIfInBounds j true) = [i])
    (hl : (listed.setIfInBounds j true).setIfInBounds i true = (listed.setIfInBounds i true).setIfInBounds j true)
    (hwi : Region.wanted oi (yielded ops a.tmps) = true) (hwj : Region.wanted oj (yielded ops a.tmps) = true)
    (hwi2 : ∀ u, Region.wanted oi (yielded ops (a.put dj u).tmps) = true) (hwj2 : ∀ v, Region.wanted oj (yielded ops (a.put di v).tmps) = true)
    (hcomm : ∀ v u, (a.put dj u).put di v = (a.put di v).put dj u)
    {R : Ending → World → Prop} (hrun : (execOp a.eval oi).run P w = .ok (.enter f args) w) (hc : Calls P f args w R)
    (h1 : ∀ e w', R e w' → ∃ v u w'', e = .returned v ∧ S w' ∧ (execOp (a.put di v).eval oj).run P w' = .ok (.value u) w'' ∧ S w'' ∧ Z v u w'')
    (h2 : ∃ u w' R', (execOp a.eval oj).run P w = .ok (.value u) w' ∧ S w' ∧ (execOp (a.put dj u).eval oi).run P w' = .ok (.enter f args) w' ∧ Calls P f args w' R' ∧ ∀ e w'', R' e w'' → ∃ v, e = .returned v ∧ S w'' ∧ Z v u w'')
    (h : ∀ v u W, Z v u W → wpAnyH P md ops Q S fuel ((listed.setIfInBounds i true).setIfInBounds j true) ((a.put di v).put dj u) W) :
    wpAnyH P md ops Q S (fuel + 2) listed a w := by
  refine wpAnyH_all hr (by simp) (fun k hk => ?_)
  rcases List.mem_cons.1 hk with rfl | hk
  rotate_left
  · rw [List.mem_singleton.1 hk]
    unfold wpOp
    simp only [hi, hwi, if_true]
    refine .inl ?_
    unfold Oper.wp
    rw [hrun, Oper.upon_enter]
    refine hc.mono fun e w' he => ?_
    obtain ⟨v, u, w'', rfl, hS, hrunj, hS2, hZ⟩ := h1 e w' he
    subst hdi
    refine ⟨hS, ?_⟩
    exact held_value hdj hj hri (hwj2 v) hrunj hS2 (h v u w'' hZ)
  · unfold wpOp
    simp only [hj, hwj, if_true]
    refine .inl ?_
    obtain ⟨u, w', R', hrunj, hS, hruni, hc', hz⟩ := h2
    unfold Oper.wp
    rw [hrunj, Oper.upon_value]
    subst hdj
    refine ⟨hS, ?_⟩
    refine held_call hdi hi hrj (hwi2 u) hruni hc' (fun e w'' he => ?_)
    obtain ⟨v, rfl, hS2, hZ⟩ := hz e w'' he
    refine ⟨v, rfl, hS2, ?_⟩
    rw [hl, hcomm]
    exact h v u w'' hZ
end

end Go.Proofs.Ytkdkncbccofpdaa
