/- What a law of this layer stands on: the tables are laid, worlds since the law's first; facts on modes; the last step of every law. -/
import Derived.Test.YtbgpppbcffpdbaaGreatDoorMRs
import Derived.ProofKit
import Derived.LaidMore
import Derived.OpenShut
import Derived.Stop.Joined
namespace Go.Proofs.YtbgpppbcffpdbaaGreatDoor
open Go.ChangeShapes Go.WideShapes Go.ChangeAt Go.WideMaps Go.WideElems Go.RowKit

theorem own : ownKnob Tryz.prog.godebug = none := by kernel_rfl
theorem laidOut : laidOutB Tryz.prog = true := by kernel_rfl

section
variable {H : Type} {enc : TypeId × Value → H} {P : Program}

theorem trodAll_below (hl : laidOutB P = true) {W W' : World} (hb : Below W.heap.size W W') : ∀ (ts : List TypeId) (vs : List Value) (ds : List (DataW H)) (ps : List MemPlace),
    (∀ t ∈ ts, P.readableRec t = true ∧ t < P.types.size) → DataW.TrodAll enc P W 0 (fun _ => true) true ts vs ds ps → (∀ x ∈ ps, x.block < W.heap.size) →
    DataW.TrodAll enc P W' 0 (fun b => decide (b < W.heap.size)) true ts vs ds ps
  | [], [], [], _, _, h, _ => h
  | t :: ts, v :: vs, d :: ds, ps, hr, h, hlt => by
    obtain ⟨p, q, h1, h2, rfl⟩ := h
    have ht := hr t (List.mem_cons_self ..)
    exact ⟨p, q, Below.trod hl ht.1 ht.2 h1 hb (fun x hx => hlt x (List.mem_append.2 (.inl hx))),
      trodAll_below hl hb ts vs ds q (fun t h => hr t (List.mem_cons_of_mem _ h)) h2 (fun x hx => hlt x (List.mem_append.2 (.inr hx))), rfl⟩
  | [], _ :: _, _, _, _, h, _ => by cases h
  | [], [], _ :: _, _, _, h, _ => by cases h
  | _ :: _, [], _, _, _, h, _ => by cases h
  | _ :: _, _ :: _, [], _, _, h, _ => by cases h

/-- THE LAST STEP OF A LAW: true came back, and below the heap's end nothing has turned. -/
theorem law_post {f : Func} {s : ChangeSpec} {W W' : World} {args : Array Value} {ds gs : List (DataW H)} {before : List MemPlace} {tb : TypeId}
    (hl : laidOutB P = true) (hts : ∀ t ∈ f.params.toList, P.readableRec t = true ∧ t < P.types.size) (hvars : s.vars = []) (hres : f.resultTypes = #[tb]) (hb4 : P.underlying tb = some .bool)
    (hW : DataW.Whole enc P f.params.toList s.vars false W args.toList ds gs before)
    (hfn : (s.fn H (ds ++ gs)).results = [.lit (.bool true)] ∧ (s.fn H (ds ++ gs)).args = ds ∧ (s.fn H (ds ++ gs)).vars = []) (hb : Below W.heap.size W W') :
    s.post enc P f false true false false W args (.bool true) W' := by
  have hlt : ∀ x ∈ before, x.block < W.heap.size := fun x hx => hW.lt x hx
  have hW' := hW
  obtain ⟨p, q, hA, hV, rfl, _, _⟩ := hW
  refine ⟨ds, gs, _, [], p, [], hW', ?_, ?_, ?_, hb.frame _, fun h => by cases h⟩
  · rw [hfn.1, hres]
    exact trodAll_mk1 (shut_bool hb4 true)
  · rw [hfn.2.1]
    exact trodAll_below hl hb _ _ _ _ hts hA (fun x hx => hlt x (List.mem_append.2 (.inl hx)))
  · rw [hfn.2.2, hvars]
    exact rfl
end

/-- the tables, and the worlds since -/
def Lay (w : World) : Prop := LaidG w ∧ LaidC w
def St (w w' : World) : Prop := Below w.heap.size w w'
theorem St.refl (w : World) : St w w := Below.refl _ _
theorem St.step {w u v : World} (h : St w u) (hb : Below u.heap.size u v) : St w v := below_step hb h
theorem Lay.goes {w u : World} (h : Lay w) (hs : St w u) : LaidG u := h.1.below hs
theorem Lay.cov {w u : World} (h : Lay w) (hs : St w u) : LaidC u := h.2.below hs

/-! facts on modes -/
theorem goesB_no (a b : Int) (h : isM a = false ∨ isM b = false) : goesB a b = false := by
  unfold goesB; rcases h with h | h <;> simp [h]
theorem covB_no (a b : Int) (h : isM a = false ∨ isM b = false) : covB a b = false := by
  unfold covB; rcases h with h | h <;> simp [h]
theorem rgB_no (a b : Int) (h : isM a = false ∨ isM b = false) : rgB a b = false := by
  unfold rgB; rcases h with h | h <;> simp [h]
theorem rcB_no (a b : Int) (h : isM a = false ∨ isM b = false) : rcB a b = false := by
  unfold rcB; rcases h with h | h <;> simp [h]

theorem goesB_eq (a b : Int) : goesB a b = rgB a b := by
  rcases Bool.eq_false_or_eq_true (isM a) with ha | ha
  · rcases Bool.eq_false_or_eq_true (isM b) with hb | hb
    · obtain ⟨x, hx, rfl⟩ := isM_nat ha
      obtain ⟨y, hy, rfl⟩ := isM_nat hb
      exact (by decide +kernel : ∀ x : Nat, x < 7 → ∀ y : Nat, y < 7 → goesB x y = rgB x y) x hx y hy
    · rw [goesB_no _ _ (.inr hb), rgB_no _ _ (.inr hb)]
  · rw [goesB_no _ _ (.inl ha), rgB_no _ _ (.inl ha)]
theorem covB_eq (a b : Int) : covB a b = rcB a b := by
  rcases Bool.eq_false_or_eq_true (isM a) with ha | ha
  · rcases Bool.eq_false_or_eq_true (isM b) with hb | hb
    · obtain ⟨x, hx, rfl⟩ := isM_nat ha
      obtain ⟨y, hy, rfl⟩ := isM_nat hb
      exact (by decide +kernel : ∀ x : Nat, x < 7 → ∀ y : Nat, y < 7 → covB x y = rcB x y) x hx y hy
    · rw [covB_no _ _ (.inr hb), rcB_no _ _ (.inr hb)]
  · rw [covB_no _ _ (.inl ha), rcB_no _ _ (.inl ha)]
theorem goesB_sym (a b : Int) : goesB a b = goesB b a := by
  rcases Bool.eq_false_or_eq_true (isM a) with ha | ha
  · rcases Bool.eq_false_or_eq_true (isM b) with hb | hb
    · obtain ⟨x, hx, rfl⟩ := isM_nat ha
      obtain ⟨y, hy, rfl⟩ := isM_nat hb
      exact (by decide +kernel : ∀ x : Nat, x < 7 → ∀ y : Nat, y < 7 → goesB x y = goesB y x) x hx y hy
    · rw [goesB_no _ _ (.inr hb), goesB_no _ _ (.inl hb)]
  · rw [goesB_no _ _ (.inl ha), goesB_no _ _ (.inr ha)]
theorem goesB_is {a b : Int} (h : goesB a b = true) : isM a = true ∧ isM b = true := by
  unfold goesB at h; simp only [Bool.and_eq_true] at h; exact ⟨h.1.1, h.1.2⟩
theorem covB_is {a b : Int} (h : covB a b = true) : isM a = true ∧ isM b = true := by
  unfold covB at h; simp only [Bool.and_eq_true] at h; exact ⟨h.1.1, h.1.2⟩
theorem covB_trans {a b c : Int} (h1 : covB a b = true) (h2 : covB b c = true) : covB a c = true := by
  obtain ⟨ha, hb⟩ := covB_is h1
  obtain ⟨_, hc⟩ := covB_is h2
  obtain ⟨x, hx, rfl⟩ := isM_nat ha
  obtain ⟨y, hy, rfl⟩ := isM_nat hb
  obtain ⟨z, hz, rfl⟩ := isM_nat hc
  exact (by decide +kernel : ∀ x : Nat, x < 7 → ∀ y : Nat, y < 7 → ∀ z : Nat, z < 7 → covB x y = true → covB y z = true → covB x z = true) x hx y hy z hz h1 h2
theorem goesB_down {a b c : Int} (h1 : covB a b = true) (h2 : goesB a c = true) : goesB b c = true := by
  obtain ⟨ha, hb⟩ := covB_is h1
  obtain ⟨_, hc⟩ := goesB_is h2
  obtain ⟨x, hx, rfl⟩ := isM_nat ha
  obtain ⟨y, hy, rfl⟩ := isM_nat hb
  obtain ⟨z, hz, rfl⟩ := isM_nat hc
  exact (by decide +kernel : ∀ x : Nat, x < 7 → ∀ y : Nat, y < 7 → ∀ z : Nat, z < 7 → covB x y = true → goesB x z = true → goesB y z = true) x hx y hy z hz h1 h2

end Go.Proofs.YtbgpppbcffpdbaaGreatDoor
