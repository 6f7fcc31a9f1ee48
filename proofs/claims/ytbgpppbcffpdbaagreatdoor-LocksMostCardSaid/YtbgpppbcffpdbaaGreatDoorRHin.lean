/- A region that draws its order, inside a fence, walked in the order of its text: what reads is taken first; its last call may be the call of yield. Nothing of a program is claimed here. -/
import Derived.Test.YtbgpppbcffpdbaaGreatDoorHeld
import Derived.OrdersIn
import Derived.RegionIn
namespace Go.Proofs.YtbgpppbcffpdbaaGreatDoor
open Go.RowKit

section
variable {F : Fence} {n : Nat} {P : Program} {ops : Array Oper} {Q : Exit → Act → World → Prop} {md : Region.Mode} {S : World → Prop}

/-- whatever order is picked from here on; S holds behind each operation -/
def inH (F : Fence) (n : Nat) (P : Program) (md : Region.Mode) (ops : Array Oper) (Q : Exit → Act → World → Prop) (S : World → Prop) : Nat → Array Bool → Act → World → Prop
  | 0, l, a, w => Region.ready md ops l = [] ∧ Q .normal a w
  | k + 1, l, a, w => (Region.ready md ops l = [] → Q .normal a w) ∧ ∀ i ∈ Region.ready md ops l, wpOpIn F n P ops Q i (fun a' w' => S w' ∧ inH F n P md ops Q S k (l.setIfInBounds i true) a' w') a w

theorem anyIn_of_inH : ∀ {k : Nat} {l : Array Bool} {a : Act} {w : World}, inH F n P md ops Q S k l a w → wpAnyIn F n P md ops Q k l a w
  | 0, _, _, _, h => h
  | _ + 1, _, _, _, h => ⟨h.1, fun i hi => wpOpIn_mono (fun _ _ h' => anyIn_of_inH h'.2) (h.2 i hi)⟩

/-- a value laid ahead of an operation, or behind it -/
theorem uponIn_later {o : Oper} {a : Act} {G : Act → Prop} {K : Act → World → Prop} {d : Option Tmp} {v : Value} {r : Result Next} (hc : ∀ (b : Act) (u : Value), (b.put d v).put o.dst u = (b.put o.dst u).put d v)
    (hG : ∀ u, G (a.put o.dst u)) (hGd : ∀ (x : Deferred) u, G (({ a with defers := x :: a.defers } : Act).put o.dst u)) (hQ : ∀ c w, Q (.panic c) (a.put d v) w → Q (.panic c) a w)
    (h : o.uponIn F n P (a.put d v) K Q r) : o.uponIn F n P a (fun a' w' => G a' ∧ K (a'.put d v) w') Q r := by
  cases r with
  | ok x w' =>
    cases x with
    | value u => rw [Oper.uponIn_value] at h ⊢; rw [hc] at h; exact ⟨hG u, h⟩
    | skip => rw [Oper.uponIn_skip] at h ⊢; rw [hc] at h; exact ⟨hG _, h⟩
    | defer x => rw [Oper.uponIn_defer] at h ⊢; rw [Act.put_defers, hc] at h; exact ⟨hGd x _, h⟩
    | enter f args =>
      rw [Oper.uponIn_enter] at h ⊢
      refine ⟨h.1, CallsIn.mono h.2 ?_⟩
      rintro (u | c | _) w'' he
      · exact ⟨hG u, by rw [← hc]; exact he⟩
      · exact hQ _ _ he
      · exact he
    | row row args =>
      rw [Oper.uponIn_row] at h ⊢
      exact ⟨h.1, RowsIn.mono h.2 fun u w'' he => ⟨hG u, by rw [← hc]; exact he⟩⟩
    | round l f tmps asg body =>
      rw [Oper.uponIn_round] at h ⊢
      refine ⟨h.1, RoundIn.mono h.2 ?_⟩
      rintro (u | c | _) w'' he
      · exact ⟨hG u, by rw [← hc]; exact he⟩
      · exact hQ _ _ he
      · exact he
    | _ => exact h.elim
  | halt x w' =>
    cases x with
    | panic u => exact hQ _ _ h
    | _ => exact h.elim

/-- it reads alone: one value, in every world that S holds of -/
def Reads (P : Program) (ops : Array Oper) (S : World → Prop) (o : Oper) (v : Value) (a : Act) : Prop := YieldsIf P ops S o v a ∧ ∀ w, o.about P w a.eval = none

theorem Reads.here {i : Nat} {o : Oper} {v : Value} {a : Act} {w : World} {K : Act → World → Prop} (hro : F.round = none) (hi : ops[i]? = some o) (hy : Reads P ops S o v a) (hS : S w) (h : K (a.put o.dst v) w) : wpOpIn F n P ops Q i K a w := by
  have hf : ∀ f, o.about P w a.eval = some f → F.fn f := fun f e => by rw [hy.2 w] at e; cases e
  simp only [wpOpIn, hi]
  rcases hy.1 with ⟨hw, hv⟩ | ⟨hw, rfl⟩
  · rw [if_pos hw]
    refine ⟨hf, ?_⟩
    rw [hro, Oper.semAt_none, hv w hS]
    exact h
  · rw [if_neg (by rw [hw]; exact Bool.false_ne_true)]
    exact ⟨hf, h⟩

theorem Reads.past {o : Oper} {v : Value} {a : Act} (hsel : ∀ cs b, o.op ≠ .select cs b) (hy : Reads P ops S o v a) {d : Option Tmp} (hd : ∀ t, d = some t → t ∉ o.looksAt ops) (u : Value) : Reads P ops S o v (a.put d u) :=
  ⟨hy.1.of_same (execOp_put o hsel a d u hd) (wanted_put o a d u hd), fun w => (about_put o w a d u hd).trans (hy.2 w)⟩

theorem later_in {j : Nat} {oi oj : Oper} {v : Value} (hro : F.round = none) (hj : ops[j]? = some oj) (hap : oi.apart ops oj = true) (hsi : ∀ cs b, oi.op ≠ .select cs b) (hsj : ∀ cs b, oj.op ≠ .select cs b)
    (hQ : ∀ c a w, Q (.panic c) (a.put oi.dst v) w → Q (.panic c) a w) {K : Act → World → Prop} {a : Act} {w : World} (hy : Reads P ops S oi v a) (h : wpOpIn F n P ops Q j K (a.put oi.dst v) w) :
    wpOpIn F n P ops Q j (fun a' w' => Reads P ops S oi v a' ∧ K (a'.put oi.dst v) w') a w := by
  obtain ⟨h1, h2, h3⟩ := Oper.apart_spec hap
  have hc : ∀ (b : Act) (u : Value), (b.put oi.dst v).put oj.dst u = (b.put oj.dst u).put oi.dst v := fun b u => Act.put_comm b v u h2
  have hG : ∀ u, Reads P ops S oi v (a.put oj.dst u) := fun u => hy.past hsi h3 u
  simp only [wpOpIn, hj] at h ⊢
  rw [wanted_put oj a oi.dst v h1, about_put oj w a oi.dst v h1] at h
  by_cases hw : Region.wanted oj (yielded ops a.tmps) = true
  · rw [if_pos hw] at h ⊢
    unfold Oper.wpIn at h ⊢
    rw [about_put oj w a oi.dst v h1, hro, Oper.semAt_none, execOp_put oj hsj a oi.dst v h1] at h
    rw [hro, Oper.semAt_none]
    exact ⟨h.1, uponIn_later hc hG (fun x u => Reads.past (a := { a with defers := x :: a.defers }) hsi ⟨hy.1.of_same rfl rfl, hy.2⟩ h3 u) (fun c w' => hQ c a w') h.2⟩
  · rw [if_neg hw] at h ⊢
    rw [hc] at h
    exact ⟨h.1, hG _, h.2⟩

theorem inH_first {i : Nat} {oi : Oper} {v : Value} (hro : F.round = none) (hi : ops[i]? = some oi) (hsel : ∀ (j : Nat) (o : Oper) cs b, ops[j]? = some o → o.op ≠ .select cs b) (hQ : ∀ c a w, Q (.panic c) (a.put oi.dst v) w → Q (.panic c) a w) (k : Nat) :
    ∀ (l : Array Bool) (a : Act) (w : World), (∀ j oj, ops[j]? = some oj → j ≠ i → l.getD j true = false → (∀ e ∈ oj.after, Region.binds md e = true → e.on ≠ i) → oi.apart ops oj = true) →
      i ∈ Region.ready md ops l → Reads P ops S oi v a → S w → inH F n P md ops Q S k (l.setIfInBounds i true) (a.put oi.dst v) w → inH F n P md ops Q S (k + 1) l a w := by
  induction k with
  | zero =>
    intro l a w _ hr hy hS H
    refine ⟨fun e => (by rw [e] at hr; cases hr), fun j hj => ?_⟩
    rcases (Decidable.em (j = i)).symm with hji | rfl
    · exact absurd (ready_mono hj hji) (by rw [H.1]; exact List.not_mem_nil)
    · exact hy.here hro hi hS ⟨hS, H⟩
  | succ k ih =>
    intro l a w hfree hr hy hS H
    refine ⟨fun e => (by rw [e] at hr; cases hr), fun j hj => ?_⟩
    rcases (Decidable.em (j = i)).symm with hji | rfl
    · obtain ⟨hun, oj, hoj, hall⟩ := mem_ready.1 hj
      have hnot : ∀ e ∈ oj.after, Region.binds md e = true → e.on ≠ i := fun e he hb heq => by
        have h1 := heq ▸ hall e he hb
        have h0 := (mem_ready.1 hr).1
        rcases Nat.lt_or_ge i l.size with hlt | hge
        · simp [hlt] at h0 h1; rw [h0] at h1; cases h1
        · simp [Array.getElem?_eq_none hge] at h1
      refine wpOpIn_mono (fun a' w' h3 => ⟨h3.2.1, ih _ a' w' (fun m om hm hmi hmu hmo => hfree m om hm hmi ?_ hmo) (ready_mono hr (Ne.symm hji)) h3.1 h3.2.1 ?_⟩)
        (later_in hro hoj (hfree j oj hoj hji hun hnot) (fun cs b => hsel i oi cs b hi) (fun cs b => hsel j oj cs b hoj) hQ hy (H.2 j (ready_mono hj hji)))
      · rcases (Decidable.em (j = m)).symm with hjm | rfl
        · rwa [getD_set_ne true hjm] at hmu
        · exact hun
      · rw [Array.setIfInBounds_comm _ _ hji]
        exact h3.2.2
    · exact hy.here hro hi hS ⟨hS, H⟩

/-- it reads, and is taken first -/
theorem inH_take {i : Nat} {o : Oper} {dst : Option Tmp} (hd : o.dst = dst) {v : Value} {k : Nat} {l : Array Bool} {a : Act} {w : World} (hro : F.round = none) (hi : ops[i]? = some o)
    (hs : Region.noSelect ops = true) (hf : Region.free md ops l i = true) (hr : (Region.ready md ops l).contains i = true)
    (hQ : ∀ c a w, Q (.panic c) (a.put o.dst v) w → Q (.panic c) a w) (hy : Reads P ops S o v a) (hS : S w)
    (h : inH F n P md ops Q S k (l.setIfInBounds i true) (a.put dst v) w) : inH F n P md ops Q S (k + 1) l a w := by
  subst hd
  exact inH_first hro hi (Region.noSelect_spec hs) hQ k l a w (Region.free_spec hi hf) (by simpa using hr) hy hS h

/-- the one that may come up -/
theorem inH_one {i : Nat} {o : Oper} {k : Nat} {l : Array Bool} {a : Act} {w : World} (hi : ops[i]? = some o) (hr : Region.ready md ops l = [i]) (hw : Region.wanted o (yielded ops a.tmps) = true)
    (h : o.wpIn F n P a w (fun a' w' => S w' ∧ inH F n P md ops Q S k (l.setIfInBounds i true) a' w') Q) : inH F n P md ops Q S (k + 1) l a w := by
  refine ⟨fun e => (by rw [e] at hr; cases hr), fun j hj => ?_⟩
  rw [hr] at hj
  rw [List.mem_singleton.1 hj]
  simp only [wpOpIn, hi]
  rw [if_pos hw]
  exact h

/-- it is a call of a function, that returns -/
theorem inH_call {i : Nat} {o : Oper} {dst : Option Tmp} (hd : o.dst = dst) {k : Nat} {l : Array Bool} {a : Act} {w : World} {f : FuncId} {args : Array Value} {R : Ending → World → Prop} (hro : F.round = none) (hn : F.depth.isSome = true → 1 ≤ n) (hF : ∀ f, F.fn f)
    (hi : ops[i]? = some o) (hr : Region.ready md ops l = [i]) (hw : Region.wanted o (yielded ops a.tmps) = true) (hrun : (execOp a.eval o).run P w = .ok (.enter f args) w) (hc : CallsIn F (n - 1) P f args w R)
    (h : ∀ e w', R e w' → ∃ v, e = .returned v ∧ S w' ∧ inH F n P md ops Q S k (l.setIfInBounds i true) (a.put dst v) w') : inH F n P md ops Q S (k + 1) l a w := by
  subst hd
  refine inH_one hi hr hw ⟨fun f _ => hF f, ?_⟩
  rw [hro, Oper.semAt_none, hrun, Oper.uponIn_enter]
  refine ⟨hn, hc.mono fun e w' he => ?_⟩
  obtain ⟨v, rfl, h1, h2⟩ := h e w' he
  exact ⟨h1, h2⟩

theorem inH_done {k : Nat} {l : Array Bool} {a : Act} {w : World} (hr : Region.ready md ops l = []) (h : Q .normal a w) : inH F n P md ops Q S k l a w := by
  cases k with
  | zero => exact ⟨hr, h⟩
  | succ k => exact ⟨fun _ => h, by rw [hr]; simp⟩

theorem wpIn_region_held {id : Nat} {a : Act} {w : World} (hm : P.follows .mixedOrders = true) (S : World → Prop)
    (h : inH F n P .any ops Q S ops.size (Array.replicate ops.size false) a { w with drawn := w.drawn + 1 }) : (Code.region id ops true).wpIn F n P Q a w :=
  wpIn_region_any hm (anyIn_of_inH h)

end

end Go.Proofs.YtbgpppbcffpdbaaGreatDoor
