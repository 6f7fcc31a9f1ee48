/- The keys of a map with integer keys, sorted: which list slices.Sorted(maps.Keys(m)) answers; nothing of a program is claimed here. -/
import Derived.Test.YtjhnagipagkhiaaGreatMaps
import Derived.Lib.SlKeysI
namespace Go.Proofs.YtjhnagipagkhiaaGreat
open Go.RowKit Go.ChangeMaps Go.Maps

theorem insert_perm {H : Type} (x : Lit × DataW H) : ∀ l : List (Lit × DataW H), (DataW.insert x l).Perm (x :: l)
  | [] => List.Perm.refl _
  | y :: l => by
    unfold DataW.insert
    split
    · exact List.Perm.refl _
    · exact ((insert_perm x l).cons y).trans (List.Perm.swap x y l)

theorem fold_perm {H : Type} : ∀ l : List (Lit × DataW H), (l.foldr DataW.insert []).Perm l
  | [] => List.Perm.refl _
  | x :: l => by
    rw [List.foldr_cons]
    exact (insert_perm x _).trans ((fold_perm l).cons x)

/-- an element, of which nothing is asked -/
def unitR : Value → Option (DataW Unit × List MemPlace) := fun _ => some (.nil, [])

theorem gives_some {es : List MapEntry} {k : Int} : (gives es k).isSome = true ↔ k ∈ es.map keyInt := by
  have h := gives_mem (es := es) (k := k)
  cases hg : gives es k with
  | none => rw [hg] at h; simpa using h.1 rfl
  | some v =>
    rw [hg] at h
    constructor
    · intro _
      exact Decidable.byContradiction fun hn => by cases h.2 hn
    · intro _; rfl

/-- the very list of keys: rising, just those at which f gives something -/
structure Rising (f : Int → Option Value) (ks : List Int) : Prop where
  lt : ks.Pairwise (· < ·)
  mem : ∀ j, j ∈ ks ↔ (f j).isSome = true

theorem Rising.sorted {f : Int → Option Value} {ks ss : List Int} (h : Rising f ks) (hn : ss.Nodup) (hm : ∀ j, j ∈ ss ↔ (f j).isSome = true) : ss.mergeSort (fun x y => decide (x ≤ y)) = ks := by
  have hp : ss.Perm ks := (List.perm_ext_iff_of_nodup hn (h.lt.imp fun {a b} hab => by omega)).2 fun j => (hm j).trans (h.mem j).symm
  have tr : ∀ a b c : Int, decide (a ≤ b) = true → decide (b ≤ c) = true → decide (a ≤ c) = true := fun a b c h1 h2 => by simp only [decide_eq_true_eq] at *; omega
  have to : ∀ a b : Int, (decide (a ≤ b) || decide (b ≤ a)) = true := fun a b => by simp only [Bool.or_eq_true, decide_eq_true_eq]; omega
  refine List.Perm.eq_of_pairwise (le := fun a b : Int => decide (a ≤ b) = true) (fun a b _ _ h1 h2 => ?_) (List.pairwise_mergeSort tr to ss) (h.lt.imp fun {a b} hab => by simp only [decide_eq_true_eq]; omega) ((List.mergeSort_perm ss _).trans hp)
  simp only [decide_eq_true_eq] at h1 h2
  omega

theorem Rising.unique {f : Int → Option Value} {ks ss : List Int} (h : Rising f ks) (k : Rising f ss) : ss = ks := by
  have h1 := h.sorted (k.lt.imp fun {a b} hab => by omega) k.mem
  have h2 := k.sorted (k.lt.imp fun {a b} hab => by omega) k.mem
  exact h2.symm.trans h1

theorem IMap.owns {P : Program} {k : TypeId} {w : World} {b cn : Nat} {f : Int → Option Value} (h : IMap .i64 w b cn f) (hk : P.underlying k = some (.int .i64)) (hwf : ∀ j, (f j).isSome = true → (Lit.int .i64 j).wf = true) (hcn : cn ≤ maxLen) :
    ∃ D : DataW Unit, w.ownsMap P k unitR b cn D ∧ Maps.size D = cn ∧ ∀ ss : List Int, ss.Perm (intKeys D) → ss.Nodup ∧ ss.length = cn ∧ ∀ j, j ∈ ss ↔ (f j).isSome = true := by
  obtain ⟨es, c, h1, h2, h3, h4, h5, h6⟩ := h
  have hkey : ∀ x ∈ es.toList, keyOf P k x.key = some (.int .i64 (keyInt x)) := by
    intro x hx
    have hw : (Lit.int .i64 (keyInt x)).wf = true := hwf _ (by rw [← h5]; exact gives_some.2 (List.mem_map.2 ⟨x, hx, rfl⟩))
    rw [h2 x hx]
    simp [keyOf, hk, mapKey, hw]
  have hrd : ∀ x ∈ es.toList, WideElems.rd P k unitR x = some (.int .i64 (keyInt x), .nil) := by
    intro x hx
    simp [WideElems.rd, hkey x hx, unitR]
  have hrg : es.toList.map (WideElems.rg P k unitR) = es.toList.map fun x => (Lit.int .i64 (keyInt x), (.nil : DataW Unit)) := by
    refine List.map_congr_left fun x hx => ?_
    simp [WideElems.rg, hrd x hx]
  refine ⟨.map ((es.toList.map (WideElems.rg P k unitR)).foldr DataW.insert []), ⟨es, c, h1, ⟨by omega, h6, fun x hx => ⟨_, hrd x hx⟩⟩, by omega, rfl⟩, ?_, ?_⟩
  · show (List.foldr DataW.insert [] _).length = cn
    rw [(fold_perm _).length_eq, List.length_map, ← h4]; simp
  · intro ss hp
    have hp2 : ss.Perm (es.toList.map keyInt) := by
      refine hp.trans ?_
      show ((List.foldr DataW.insert [] _).map fun p => intOf p.1).Perm _
      refine ((fold_perm _).map _).trans ?_
      rw [hrg, List.map_map]
      exact List.Perm.refl _
    refine ⟨hp2.symm.nodup h3, ?_, fun j => ?_⟩
    · rw [hp2.length_eq, List.length_map, ← h4]; simp
    · rw [hp2.mem_iff, ← gives_some, h5]

theorem IMap.count {w : World} {b cn : Nat} {f : Int → Option Value} (h : IMap .i64 w b cn f) {ks : List Int} (hr : Rising f ks) : cn = ks.length := by
  obtain ⟨es, c, h1, h2, h3, h4, h5, h6⟩ := h
  have hp : (es.toList.map keyInt).Perm ks := (List.perm_ext_iff_of_nodup h3 (hr.lt.imp fun {a b} hab => by omega)).2 fun j => by rw [← gives_some, h5, hr.mem]
  rw [← hp.length_eq, List.length_map, ← h4]; simp

end Go.Proofs.YtjhnagipagkhiaaGreat
