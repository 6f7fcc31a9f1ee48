/- A loop over the sectors that are pending: the statement 'for i := range d.eachPending' by what its body does, round by round. Of the program's own functions it names eachPending alone. -/
import Derived.Test.YtjhnagipagkhiaaGreatEach
import Derived.RangeFuncWrites
import Derived.StillTailTactics
import Derived.OrdersIn
namespace Go.Proofs.YtjhnagipagkhiaaGreat
open Go.RowKit Go.Maps

/-- how a round may end: it goes on; what is no cells stays, and so does the stretch of memory that the iterator holds -/
def eachPost (w Wf : World) (I : World → List Int → World → Prop) (xs : List Int) (W : World) : Exit → Act → World → Prop
  | .normal, _, W' => KeepsFrom w.heap.size W W' ∧ Same (w.heap.size + 2) Wf.heap.size W W' ∧ I Wf xs W'
  | _, _, _ => False

theorem putObj_same {a b l : Nat} {W : World} {o : Obj} (h : l < a) : Same a b W (W.putObj l o) := fun _ h1 _ => World.putObj_heap_other (by omega)

set_option maxHeartbeats 1000000 in
theorem range_each {g : Operand} {ps : Array Tmp} {assign body : Code} {Q : Exit → Act → World → Prop} {a : Act} {w : World} {p : Pl} {d : Dk} (k : At w p d)
    (hg : a.eval g = .func (.func 70) #[ptr p] #[]) (hps : ps.size = 1) (I : World → List Int → World → Prop)
    (hI0 : ∀ Wf, Below w.heap.size w Wf → I Wf [] Wf)
    (hIp : ∀ Wf pre W l o o', w.heap.size ≤ l → l ≤ w.heap.size + 1 → Below w.heap.size w Wf → W.heap[l]? = some o → o.isCells = false → I Wf pre W → I Wf pre (W.putObj l o')) (a₁ : Int → Act)
    (hassign : ∀ (l : Nat) (x : Int) (W : World) (K : Act → World → Prop), K (a₁ x) W →
      assign.wpIn (Fence.wide.inRound l) 8 Tryz.prog (Exit.then K (fun _ _ _ => False)) { tmps := (ps.zip #[Value.int .i64 x]).foldl (fun t (p, v) => t.setIfInBounds p v) a.tmps, defers := [] } W)
    (hbody : ∀ (l : Nat) (Wf : World) (pre : List Int) (x : Int) (post : List Int) (W : World), Below w.heap.size w Wf → w.heap.size + 2 ≤ Wf.heap.size → d.pend = pre ++ x :: post → I Wf pre W → Wf.heap.size ≤ W.heap.size →
      body.wpIn (Fence.wide.inRound l) 8 Tryz.prog (eachPost w Wf I (pre ++ [x]) W) (a₁ x) W)
    (hdone : ∀ (D : Nat) (Wf W : World), w.heap.size ≤ D → Below w.heap.size w Wf → I Wf d.pend W → W.heap[D]? = some (.deferred (some [])) → D < w.heap.size + 1 → Q .normal { a with defers := { target := .collected D, args := #[] } :: a.defers } W) :
    (Code.rangeFunc g ps assign body).wpIn Fence.wide 10 Tryz.prog Q a w := by
  refine wpIn_rangeFunc (fun fn hfn => ?_)
  obtain ⟨rec, hrec⟩ : ∃ rec : LoopState → Option Code → Loop, rec = fun st pe => { state := st, pending := pe, fn, tmps := a.tmps, params := ps, assign, body, defers := w.heap.size } := ⟨_, rfl⟩
  obtain ⟨W1, hW1⟩ : ∃ W1, (w.alloc (.deferred (some []))).alloc (.loop (rec .ready none)) = W1 := ⟨_, rfl⟩
  have hs1 : W1.heap.size = w.heap.size + 2 := by rw [← hW1]; simp
  have hL1 : W1.heap[w.heap.size + 1]? = some (.loop (rec .ready none)) := by
    rw [← hW1]; have := World.alloc_heap_new (w.alloc (.deferred (some []))) (.loop (rec .ready none)); rwa [World.size_alloc] at this
  have hK1 : W1.heap[w.heap.size]? = some (.deferred (some [])) := by
    rw [← hW1]; exact (Below.heap_alloc _ _ _ (by simp)).trans (World.alloc_heap_new w _)
  have hb1 : Below w.heap.size w W1 := by rw [← hW1]; exact ((Below.refl _ w).alloc (Nat.le_refl _) _).alloc (by simp) _
  refine ⟨w.heap.size + 1, [{ target := .collected w.heap.size, args := #[] }], W1, { target := .fn (.func 70) #[], args := #[ptr p, .func (.yield (w.heap.size + 1)) #[] #[]] }, W1, 70,
    #[ptr p, .func (.yield (w.heap.size + 1)) #[] #[]], W1, ?_, ?_, fun _ _ => trivial, ?_, fun _ => by omega, ?_⟩
  · rw [← hW1, hrec]; exact run_enterLoop_outer _ _ _ _ _
  · simp only [resolve, hg]
    simp [go_sem]
  · simp [invoke, go_sem]
  · refine (each_any p d W1 (k.below hb1) (w.heap.size + 1)
      (fun Wf pre W => Below w.heap.size w Wf ∧ w.heap.size + 2 ≤ Wf.heap.size ∧ Wf.heap.size ≤ W.heap.size ∧ I Wf pre W ∧ W.heap[w.heap.size + 1]? = some (.loop (rec .ready none)) ∧ W.heap[w.heap.size]? = some (.deferred (some [])))
      ?_ ?_).mono ?_
    · intro Wf hf
      have hbf : Below w.heap.size w Wf := hb1.trans (hf.mono hb1.size)
      exact ⟨hbf, by have := hf.size; omega, Nat.le_refl _, hI0 Wf hbf, (hf.block _ (by omega)).trans hL1, (hf.block _ (by omega)).trans hK1⟩
    · rintro Wf pre x post W hf hsp ⟨hbf, hwf, hle, hi, hl, hk⟩
      have hlt : w.heap.size + 1 < W.heap.size := (Array.getElem?_eq_some_iff.1 hl).1
      have hy := run_yield (P := Tryz.prog) (args := #[Value.int .i64 x]) hl (by rw [hrec]; simp [hps])
      rw [hrec] at hy
      refine ⟨fn, _, assign, body, hy, roundIn_of_wpIn hfn (hassign _ x W _ ⟨_, run_beginRound hl (by rw [hrec]), ?_⟩)⟩
      have hl2 : (W.putObj (w.heap.size + 1) (.loop { rec .ready none with state := .busy })).heap[w.heap.size + 1]? = some (.loop { rec .ready none with state := .busy }) := World.putObj_heap_same hlt
      have hk2 : (W.putObj (w.heap.size + 1) (.loop { rec .ready none with state := .busy })).heap[w.heap.size]? = some (.deferred (some [])) := (World.putObj_heap_other (by omega)).trans hk
      refine wpIn_mono (hbody _ Wf pre x post _ hbf hwf hsp (hIp Wf pre W _ _ _ (by omega) (by omega) hbf hl rfl hi) (by simpa using hle)) ?_
      rintro e a3 W3 hp
      cases e with
      | normal =>
        obtain ⟨hk3, hsm, hi3⟩ := hp
        have hl3 := hk3.same _ _ (by omega) hl2 rfl
        have hd3 := hk3.same _ _ (Nat.le_refl _) hk2 rfl
        have hend := run_endRound (P := Tryz.prog) none hl3
        rw [hrec] at hend hl3 ⊢
        have hsz : W.heap.size ≤ W3.heap.size := by have := hk3.size; simpa using this
        refine ⟨_, _, hend, rfl, ⟨hbf, hwf, by simp; omega, hIp Wf _ _ _ _ _ (by omega) (by omega) hbf hl3 rfl hi3, ?_, (World.putObj_heap_other (by omega)).trans hd3⟩, ?_⟩
        · exact World.putObj_heap_same (Array.getElem?_eq_some_iff.1 hl3).1
        · intro j h1 h2
          rw [hs1] at h1
          exact (World.putObj_heap_other (by omega)).trans ((hsm j h1 h2).trans (World.putObj_heap_other (by omega)))
      | ret => exact hp.elim
      | exit id => exact hp.elim
      | goto t => exact hp.elim
      | panic ch => exact hp.elim
      | outgrown => exact hp.elim
    · rintro e W2 ⟨⟨v, rfl⟩, Wf, hf, hbf, hwf, hle, hi, hl, hk⟩
      exact ⟨none, _, by have := run_endLoop (P := Tryz.prog) hl (by rw [hrec]; simp); rw [hrec] at this; exact this,
        hdone _ Wf _ (Nat.le_refl _) hbf (hIp Wf _ _ _ _ _ (by omega) (by omega) hbf hl rfl hi) ((World.putObj_heap_other (by omega)).trans hk) (by omega)⟩

/-! ## a region that draws its order, in a round -/

theorem upon_lift {P : Program} {o : Oper} {a : Act} {K : Act → World → Prop} {Q : Exit → Act → World → Prop} {r : Result Next} (l n : Nat) (h : o.upon P a K Q r) : o.uponIn (Fence.wide.inRound l) n P a K Q r := by
  unfold Oper.upon at h
  unfold Oper.uponIn
  split at h
  · exact h
  · exact h
  · exact h
  · exact ⟨fun hd => by simp [Fence.wide] at hd, CallsIn.inRound l (callsIn_wide.2 h)⟩
  · refine ⟨fun hd => by simp [Fence.wide] at hd, fun c cs _ => ?_⟩
    obtain ⟨v, w', h1, h2⟩ := h c cs
    exact ⟨v, w', h1, stepsIn_wide.2 h2⟩
  · exact h
  · exact h.elim

def noDefer (ops : Array Oper) : Bool := ops.all fun o => match o.op with | .defer _ => false | _ => true

theorem wpOp_lift {P : Program} {ops : Array Oper} {Q : Exit → Act → World → Prop} (l n : Nat) (hd : noDefer ops = true) (hq : ¬ LetsOut Q) {i : Nat} {K K' : Act → World → Prop} (hK : ∀ a w, K a w → K' a w) {a : Act} {w : World}
    (h : wpOp P ops Q i K a w) : wpOpIn (Fence.wide.inRound l) n P ops Q i K' a w := by
  unfold wpOp at h
  unfold wpOpIn
  split at h
  · rename_i ho
    rw [ho]; exact hK _ _ h
  · rename_i o ho
    rw [ho]
    simp only
    have hnd : ∀ c, o.op ≠ .defer c := by
      intro c hc
      have hm : o ∈ ops := Array.mem_of_getElem? ho
      have := Array.all_eq_true_iff_forall_mem.1 hd o hm
      rw [hc] at this
      simp at this
    split at h
    · rename_i hw
      rw [if_pos hw]
      rcases h with h | ⟨_, h⟩
      · refine Oper.wpIn_mono hK ⟨fun _ _ => trivial, ?_⟩
        rw [Oper.semAt_eq _ _ _ hnd]
        exact upon_lift l n h
      · exact absurd h hq
    · rename_i hw
      rw [if_neg hw]
      exact ⟨fun _ _ => trivial, hK _ _ h⟩

theorem any_lift {P : Program} {md : Region.Mode} {ops : Array Oper} {Q : Exit → Act → World → Prop} (l n : Nat) (hd : noDefer ops = true) (hq : ¬ LetsOut Q) : ∀ (fuel : Nat) (listed : Array Bool) (a : Act) (w : World),
    wpAny P md ops Q fuel listed a w → wpAnyIn (Fence.wide.inRound l) n P md ops Q fuel listed a w
  | 0, _, _, _, h => h
  | fuel + 1, _, _, _, h => ⟨h.1, fun i hi => wpOp_lift l n hd hq (fun a' w' h' => any_lift l n hd hq fuel _ a' w' h') (h.2 i hi)⟩

/-- all but the last operations read; the last ones stand in one order -/
theorem any_tail {P : Program} {Q : Exit → Act → World → Prop} {a : Act} {w : World} {l : List Oper} (n : Nat) (hB : Region.lexTailB .any l.toArray n = true)
    (h : wpStill P l.toArray w (fun a' => wpList P l.toArray Q (l.drop n) a' w) (l.take n) a) : wpAny P .any l.toArray Q l.length (Array.replicate l.length false) a w := by
  have hB' := hB
  simp only [Region.lexTailB, Bool.and_eq_true, decide_eq_true_eq] at hB'
  have hn : n < l.length := by simpa using hB'.1.1.1.2
  have e1 : (l.take n).length = n := by rw [List.length_take]; omega
  have e2 : (l.drop n).length = l.length - n := List.length_drop
  have e3 : l.length = (l.take n).length + (l.length - n) := by rw [e1]; omega
  have hhead := wpAnyL_lex (P := P) (w := w) (md := .any) (ops := l.toArray) (g := l.length - n) (Lq := fun a' => wpList P l.toArray Q (l.drop n) a' w) hB'.1.1.1.1 hB'.1.1.2 hB'.1.2 (by simpa using hn) (l.take n) 0 (Array.replicate l.length false) a
    (fun j hj => by rw [e1] at hj; simp [hj]) (by rw [e1]; omega)
    ⟨by simp, fun j oj _ hl => (by rw [getD_replicate_false] at hl; cases hl), fun t _ ht => getD_in (by simpa using ht) (getD_replicate_false _ _)⟩
    (by rw [e1]; simpa using hB'.2) h
  have := wpAny_of_head (Q' := Q) (g := l.length - n) (fun listed a' hL => by
    have := wpAny_of_seq (P := P) (md := .any) (ops := l.toArray) (Q' := Q) (l.drop n) n listed a' w (fun j => by simp [List.getElem?_drop]) (by rw [e2]; exact hL.1) hL.2
    rwa [e2] at this) _ _ _ hhead
  rwa [← e3] at this

end Go.Proofs.YtjhnagipagkhiaaGreat
