/- A function that is ranged over, by what it tells; and the statement that ranges over it (from the texts Each, Range, RTell: what in them names no program). -/
import Derived.Test.YtbgpppbcffpdbaaGreatDoorCells
import Derived.RangeFuncNested
import Derived.RangeFuncBound
import Derived.RangeFuncCalls
import Derived.RangeFuncLeaves
import Derived.RangeFuncWrites
import Derived.Shelf.Abstract
import Derived.OwnWalkIn
import Derived.TacticsInMore
import Derived.RegionIn
import Derived.LoopNIn
import Derived.LoopIn
import Derived.StillTailTactics
import Derived.OrdersIn
namespace Go.Proofs.YtbgpppbcffpdbaaGreatDoor
open Go.RowKit Go.Maps

/-- the blocks of a stretch lie as they lay -/
def Same (a b : Nat) (w w' : World) : Prop := ∀ k, a ≤ k → k < b → w'.heap[k]? = w.heap[k]?

/-! ## a region that draws its order, in a round -/

theorem upon_lift {P : Program} {o : Oper} {a : Act} {K : Act → World → Prop} {Q : Exit → Act → World → Prop} {r : Result Next} (l n : Nat) (h : o.upon P a K Q r) : o.uponIn (Fence.wide.inRound l) n P a K Q r := by
  unfold Oper.upon at h
  unfold Oper.uponIn
  split at h
  · exact h
  · exact h
  · exact h
  · exact ⟨fun hd => by simp [Fence.wide] at hd, CallsIn.inRound l (callsIn_wide.2 h)⟩
  · refine ⟨fun hd => by simp [Fence.wide] at hd, fun c cs _ => ?_⟩
    obtain ⟨v, w', h1, h2⟩ := h c cs
    exact ⟨v, w', h1, stepsIn_wide.2 h2⟩
  · exact h
  · exact h.elim

def noDefer (ops : Array Oper) : Bool := ops.all fun o => match o.op with | .defer _ => false | _ => true

theorem wpOp_lift {P : Program} {ops : Array Oper} {Q : Exit → Act → World → Prop} (l n : Nat) (hd : noDefer ops = true) (hq : ¬ LetsOut Q) {i : Nat} {K K' : Act → World → Prop} (hK : ∀ a w, K a w → K' a w) {a : Act} {w : World}
    (h : wpOp P ops Q i K a w) : wpOpIn (Fence.wide.inRound l) n P ops Q i K' a w := by
  unfold wpOp at h
  unfold wpOpIn
  split at h
  · rename_i ho
    rw [ho]; exact hK _ _ h
  · rename_i o ho
    rw [ho]
    simp only
    have hnd : ∀ c, o.op ≠ .defer c := by
      intro c hc
      have hm : o ∈ ops := Array.mem_of_getElem? ho
      have := Array.all_eq_true_iff_forall_mem.1 hd o hm
      rw [hc] at this
      simp at this
    split at h
    · rename_i hw
      rw [if_pos hw]
      rcases h with h | ⟨_, h⟩
      · refine Oper.wpIn_mono hK ⟨fun _ _ => trivial, ?_⟩
        rw [Oper.semAt_eq _ _ _ hnd]
        exact upon_lift l n h
      · exact absurd h hq
    · rename_i hw
      rw [if_neg hw]
      exact ⟨fun _ _ => trivial, hK _ _ h⟩

theorem any_lift {P : Program} {md : Region.Mode} {ops : Array Oper} {Q : Exit → Act → World → Prop} (l n : Nat) (hd : noDefer ops = true) (hq : ¬ LetsOut Q) : ∀ (fuel : Nat) (listed : Array Bool) (a : Act) (w : World),
    wpAny P md ops Q fuel listed a w → wpAnyIn (Fence.wide.inRound l) n P md ops Q fuel listed a w
  | 0, _, _, _, h => h
  | fuel + 1, _, _, _, h => ⟨h.1, fun i hi => wpOp_lift l n hd hq (fun a' w' h' => any_lift l n hd hq fuel _ a' w' h') (h.2 i hi)⟩

/-- how a round ends: it asks for more, or for no more -/
def TellPost (J : List (Array Value) → World → Prop) (Jx : World → Prop) (B : Nat) (s : List (Array Value)) (W1 : World) (e : Ending) (W' : World) : Prop :=
  Same B W1.heap.size W1 W' ∧ W1.heap.size ≤ W'.heap.size ∧ ((e = .returned (.bool true) ∧ J s W') ∨ (e = .returned (.bool false) ∧ Jx W'))

/-- a function that hands over these arguments, one behind the other, as long as it is asked for more; R: what it reads -/
def Tells (P : Program) (fn : FuncId) (pre post : Array Value) (R : List (Array Value) → World → Prop) (L : List (Array Value)) (w : World) : Prop :=
  ∀ (l : Nat) (J : List (Array Value) → World → Prop) (Jx : World → Prop),
    (∀ s W1 W2, J s W1 → Below w.heap.size W1 W2 → J s W2) → (∀ W1 W2, Jx W1 → Below w.heap.size W1 W2 → Jx W2) → (∀ s W, J s W → R s W) → J [] w →
    (∀ s x t W1, L = s ++ x :: t → w.heap.size ≤ W1.heap.size → J s W1 → YieldAt Fence.wide 8 P l x W1 (TellPost J Jx w.heap.size (s ++ [x]) W1)) →
    CallsIn Fence.wide 9 P fn (pre ++ #[.func (.yield l) #[] #[]] ++ post) w fun e W' => (∃ v, e = .returned v) ∧ (J L W' ∨ Jx W')

/-- how a round's body may end -/
def bodyEnd (B : Nat) (I : List (Array Value) → World → Prop) (Ix : Code → World → Prop) (s : List (Array Value)) (W : World) : Exit → Act → World → Prop
  | .normal, _, W' => I s W' ∧ Same B W.heap.size W W' ∧ W.heap.size ≤ W'.heap.size
  | .exit id, _, W' => Ix (.exit id) W' ∧ Same B W.heap.size W W' ∧ W.heap.size ≤ W'.heap.size
  | .ret, _, W' => Ix .ret W' ∧ Same B W.heap.size W W' ∧ W.heap.size ≤ W'.heap.size
  | _, _, _ => False

set_option maxHeartbeats 1000000 in
theorem range_tells {P : Program} {g : Operand} {ps : Array Tmp} {assign body : Code} {Q : Exit → Act → World → Prop} {a : Act} {w : World} {fn : FuncId} {pre post : Array Value} {R : List (Array Value) → World → Prop} {L : List (Array Value)}
    (hg : a.eval g = .func (.func fn) pre post) (heg : ∀ args w, (callFunc fn args).run P w = .ok (.enter fn args) w) (hps : ∀ x ∈ L, x.size = ps.size) (hT : ∀ W, Below w.heap.size w W → Tells P fn pre post R L W)
    (I : List (Array Value) → World → Prop) (Ix : Code → World → Prop) (hIb : ∀ s W W', I s W → Below w.heap.size W W' → I s W') (hXb : ∀ c W W', Ix c W → Below w.heap.size W W' → Ix c W') (hR : ∀ s W, I s W → R s W) (hI0 : I [] w)
    (hround : ∀ (l : Nat) (s : List (Array Value)) (x : Array Value) (t : List (Array Value)) (W : World), L = s ++ x :: t → w.heap.size + 2 ≤ W.heap.size → I s W →
      assign.wpIn (Fence.wide.inRound l) 8 P (Exit.then (fun a1 W1 => Same w.heap.size W.heap.size W W1 ∧ W.heap.size ≤ W1.heap.size ∧ ∀ W2, W2.heap.size = W1.heap.size → (∀ k, k ≠ w.heap.size + 1 → W2.heap[k]? = W1.heap[k]?) → W2.os = W1.os → W2.tape = W1.tape → W2.output = W1.output → body.wpIn (Fence.wide.inRound l) 8 P (bodyEnd w.heap.size I Ix (s ++ [x]) W2) a1 W2) (fun _ _ _ => False))
        { tmps := (ps.zip x).foldl (fun t (p, v) => t.setIfInBounds p v) a.tmps, defers := [] } W)
    (hdone : ∀ (D : Nat) (W : World), w.heap.size ≤ D → I L W → W.heap[D]? = some (.deferred (some [])) → D < W.heap.size → Q .normal { a with defers := { target := .collected D, args := #[] } :: a.defers } W)
    (hleft : ∀ (D : Nat) (c : Code) (W : World), w.heap.size ≤ D → Ix c W → W.heap[D]? = some (.deferred (some [])) → D < W.heap.size → c.wpIn Fence.wide 10 P Q { a with defers := { target := .collected D, args := #[] } :: a.defers } W) :
    (Code.rangeFunc g ps assign body).wpIn Fence.wide 10 P Q a w := by
  refine wpIn_rangeFunc (fun fn0 hfn => ?_)
  obtain ⟨rec, hrec⟩ : ∃ rec : LoopState → Option Code → Loop, rec = fun st pe => { state := st, pending := pe, fn := fn0, tmps := a.tmps, params := ps, assign, body, defers := w.heap.size } := ⟨_, rfl⟩
  obtain ⟨W1, hW1⟩ : ∃ W1, (w.alloc (.deferred (some []))).alloc (.loop (rec .ready none)) = W1 := ⟨_, rfl⟩
  have hs1 : W1.heap.size = w.heap.size + 2 := by rw [← hW1]; simp
  have hL1 : W1.heap[w.heap.size + 1]? = some (.loop (rec .ready none)) := by
    rw [← hW1]; have := World.alloc_heap_new (w.alloc (.deferred (some []))) (.loop (rec .ready none)); rwa [World.size_alloc] at this
  have hK1 : W1.heap[w.heap.size]? = some (.deferred (some [])) := by
    rw [← hW1]; exact (Below.heap_alloc _ _ _ (by simp)).trans (World.alloc_heap_new w _)
  have hb1 : Below w.heap.size w W1 := by rw [← hW1]; exact ((Below.refl _ w).alloc (Nat.le_refl _) _).alloc (by simp) _
  have put : ∀ (W : World) (o : Obj), Below w.heap.size W (W.putObj (w.heap.size + 1) o) := fun W o => ⟨rfl, rfl, rfl, by simp, fun k hk => World.putObj_heap_other (by omega)⟩
  refine ⟨w.heap.size + 1, [{ target := .collected w.heap.size, args := #[] }], W1, { target := .fn (.func fn) post, args := pre ++ #[.func (.yield (w.heap.size + 1)) #[] #[]] }, W1, fn,
    pre ++ #[.func (.yield (w.heap.size + 1)) #[] #[]] ++ post, W1, ?_, ?_, fun _ _ => trivial, ?_, fun _ => by omega, ?_⟩
  · rw [← hW1, hrec]; exact run_enterLoop_outer _ _ _ _ _
  · simp only [resolve, hg]
    simp [go_sem]
  · simp [invoke, go_sem, heg]
  · refine (hT W1 hb1 (w.heap.size + 1)
      (fun s W => I s W ∧ W.heap[w.heap.size + 1]? = some (.loop (rec .ready none)) ∧ W.heap[w.heap.size]? = some (.deferred (some [])))
      (fun W => ∃ c, Ix c W ∧ W.heap[w.heap.size + 1]? = some (.loop (rec .done (some c))) ∧ W.heap[w.heap.size]? = some (.deferred (some [])))
      (fun s A B h hb => ⟨hIb s A B h.1 (hb.mono (by omega)), (hb.block _ (by omega)).trans h.2.1, (hb.block _ (by omega)).trans h.2.2⟩)
      (fun A B h hb => by obtain ⟨id, h1, h2, h3⟩ := h; exact ⟨id, hXb id A B h1 (hb.mono (by omega)), (hb.block _ (by omega)).trans h2, (hb.block _ (by omega)).trans h3⟩)
      (fun s W h => hR s W h.1) ⟨hIb [] w W1 hI0 hb1, hL1, hK1⟩ ?_).mono ?_
    · rintro s x t W hsp hW ⟨hi, hl, hk⟩
      have hlt : w.heap.size + 1 < W.heap.size := (Array.getElem?_eq_some_iff.1 hl).1
      have hy := run_yield (P := P) (args := x) hl (by rw [hrec]; exact hps x (by rw [hsp]; simp))
      rw [hrec] at hy
      refine ⟨fn0, _, assign, body, hy, roundIn_of_wpIn hfn (wpIn_mono (hround _ s x t W hsp (by omega) hi) ?_)⟩
      rintro e a1 Wa hp
      cases e with
      | normal =>
        obtain ⟨hsa, hza, hbody⟩ := hp
        have hla : Wa.heap[w.heap.size + 1]? = some (.loop (rec .ready none)) := (hsa _ (by omega) hlt).trans hl
        have hka : Wa.heap[w.heap.size]? = some (.deferred (some [])) := (hsa _ (Nat.le_refl _) (by omega)).trans hk
        refine ⟨_, run_beginRound hla (by rw [hrec]), ?_⟩
        have hl2 : (Wa.putObj (w.heap.size + 1) (.loop { rec .ready none with state := .busy })).heap[w.heap.size + 1]? = some (.loop { rec .ready none with state := .busy }) := World.putObj_heap_same (by omega)
        have hk2 : (Wa.putObj (w.heap.size + 1) (.loop { rec .ready none with state := .busy })).heap[w.heap.size]? = some (.deferred (some [])) := (World.putObj_heap_other (by omega)).trans hka
        refine wpIn_mono (hbody _ (by simp) (fun k hk => World.putObj_heap_other (by omega)) rfl rfl rfl) ?_
        rintro e a3 W3 hp
        have fin : ∀ (jump : Option Code), Same w.heap.size (Wa.putObj (w.heap.size + 1) (.loop { rec .ready none with state := .busy })).heap.size (Wa.putObj (w.heap.size + 1) (.loop { rec .ready none with state := .busy })) W3 → (Wa.putObj (w.heap.size + 1) (.loop { rec .ready none with state := .busy })).heap.size ≤ W3.heap.size →
            (Instr.endRound (w.heap.size + 1) jump).run P W3 = .ok (.bool jump.isNone) (W3.putObj (w.heap.size + 1) (.loop (rec (if jump.isNone then .ready else .done) jump))) ∧
            (W3.putObj (w.heap.size + 1) (.loop (rec (if jump.isNone then .ready else .done) jump))).heap[w.heap.size + 1]? = some (.loop (rec (if jump.isNone then .ready else .done) jump)) ∧
            (W3.putObj (w.heap.size + 1) (.loop (rec (if jump.isNone then .ready else .done) jump))).heap[w.heap.size]? = some (.deferred (some [])) ∧
            Same W1.heap.size W.heap.size W (W3.putObj (w.heap.size + 1) (.loop (rec (if jump.isNone then .ready else .done) jump))) ∧ W.heap.size ≤ (W3.putObj (w.heap.size + 1) (.loop (rec (if jump.isNone then .ready else .done) jump))).heap.size := fun jump hsm hsz => by
          have hsz' : Wa.heap.size ≤ W3.heap.size := by simpa using hsz
          have hl3 := (hsm (w.heap.size + 1) (by omega) (by simp; omega)).trans hl2
          have hk3 := (hsm w.heap.size (Nat.le_refl _) (by simp; omega)).trans hk2
          have := run_endRound (P := P) jump hl3
          rw [hrec] at this ⊢
          refine ⟨this, World.putObj_heap_same (by omega), (World.putObj_heap_other (by omega)).trans hk3, fun k h1 h2 => ?_, by simp; omega⟩
          rw [World.putObj_heap_other (by omega), hsm k (by omega) (by simp; omega), World.putObj_heap_other (by omega), hsa k (by omega) h2]
        cases e with
        | normal =>
          obtain ⟨hi3, hsm, hsz⟩ := hp
          obtain ⟨hr, hl4, hk4, hs4, hz4⟩ := fin none hsm hsz
          exact ⟨_, _, hr, hs4, hz4, .inl ⟨rfl, hIb _ _ _ hi3 (put _ _), hl4, hk4⟩⟩
        | exit id =>
          obtain ⟨hi3, hsm, hsz⟩ := hp
          obtain ⟨hr, hl4, hk4, hs4, hz4⟩ := fin (some (.exit id)) hsm hsz
          exact ⟨_, _, hr, hs4, hz4, .inr ⟨rfl, _, hXb _ _ _ hi3 (put _ _), hl4, hk4⟩⟩
        | ret =>
          obtain ⟨hi3, hsm, hsz⟩ := hp
          obtain ⟨hr, hl4, hk4, hs4, hz4⟩ := fin (some .ret) hsm hsz
          exact ⟨_, _, hr, hs4, hz4, .inr ⟨rfl, _, hXb _ _ _ hi3 (put _ _), hl4, hk4⟩⟩
        | goto t => exact hp.elim
        | panic ch => exact hp.elim
        | outgrown => exact hp.elim
      | exit id => exact hp.elim
      | ret => exact hp.elim
      | goto t => exact hp.elim
      | panic ch => exact hp.elim
      | outgrown => exact hp.elim
    · rintro e W2 ⟨⟨v, rfl⟩, (⟨hi, hl, hk⟩ | ⟨id, hi, hl, hk⟩)⟩
      · have hlt := (Array.getElem?_eq_some_iff.1 hl).1
        exact ⟨none, _, by have := run_endLoop (P := P) hl (by rw [hrec]; simp); rw [hrec] at this; exact this, hdone _ _ (Nat.le_refl _) (hIb _ _ _ hi (put _ _)) ((World.putObj_heap_other (by omega)).trans hk) (by simp; omega)⟩
      · have hlt := (Array.getElem?_eq_some_iff.1 hl).1
        exact ⟨some id, _, by have := run_endLoop (P := P) hl (by rw [hrec]; simp); rw [hrec] at this; exact this, hleft _ id _ (Nat.le_refl _) (hXb id _ _ hi (put _ _)) ((World.putObj_heap_other (by omega)).trans hk) (by simp; omega)⟩

end Go.Proofs.YtbgpppbcffpdbaaGreatDoor
