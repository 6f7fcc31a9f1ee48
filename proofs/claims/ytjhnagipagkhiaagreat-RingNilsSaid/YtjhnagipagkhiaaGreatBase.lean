/- Plain mathematics on bytes, and small facts on worlds, for the walks of this seat; nothing is claimed here. -/
import Derived.Test.YtjhnagipagkhiaaGreatRows
import Derived.WalkKit
import Derived.WalkSpells
import Derived.WalkLawsBesides
import Derived.Laws.CopyOwn
import Derived.Lib.SlBuf
import Derived.Handy
import Derived.Lib.Hide
import Derived.IntWalk
namespace Go.Proofs.YtjhnagipagkhiaaGreat
open Go.RowKit

/-- the k least digits of x to the base 256, the highest one first -/
def be : Nat → Nat → List UInt8
  | 0, _ => []
  | k + 1, x => be k (x / 256) ++ [UInt8.ofNat x]

theorem length_be : ∀ (k x : Nat), (be k x).length = k
  | 0, _ => rfl
  | k + 1, x => by simp [be, length_be k]

/-- one digit more, in front -/
theorem be_cons : ∀ (k x : Nat), be (k + 1) x = UInt8.ofNat (x / 256 ^ k) :: be k x
  | 0, x => by simp [be]
  | k + 1, x => by
    rw [be, be_cons k (x / 256), be]
    simp [Nat.div_div_eq_div_mul, Nat.pow_succ, Nat.mul_comm]

def vals (l : List UInt8) : List Value := l.map fun x => Value.int .u8 (x.toNat : Int)
theorem length_vals (l : List UInt8) : (vals l).length = l.length := by simp [vals]
theorem vals_append (l m : List UInt8) : vals (l ++ m) = vals l ++ vals m := by simp [vals]
theorem one_vals (l : List UInt8) : ∀ v ∈ vals l, v.oneCell' = true := by
  intro v hv
  obtain ⟨x, _, rfl⟩ := List.mem_map.1 hv
  rfl
theorem vals_get {l : List UInt8} {j : Nat} {v : Value} (h : (vals l)[j]? = some v) : ∃ x, l[j]? = some x ∧ v = .int .u8 (x.toNat : Int) := by
  unfold vals at h
  rw [List.getElem?_map] at h
  obtain ⟨x, hx, rfl⟩ := Option.map_eq_some_iff.1 h
  exact ⟨x, hx, rfl⟩

def zs (m : Nat) : List UInt8 := List.replicate m 0
theorem length_zs (m : Nat) : (zs m).length = m := by simp [zs]
theorem made_zs (m : Nat) : madeCells #[.int .u8 0] m = (vals (zs m)).toArray := by
  apply Array.ext
  · simp [madeCells, vals, zs]
  · intro i h1 h2
    simp [madeCells, vals, zs, Nat.mod_one]

/-- The block g holds just these bytes (and may be written). -/
def Row (T : TypeId) (w : World) (g : Nat) (l : List UInt8) : Prop := w.heap[g]? = some (.cells (vals l).toArray T (0, 0))

theorem Row.cell {T : TypeId} {w : World} {g : Nat} {l : List UInt8} (h : Row T w g l) (j : Nat) (hj : j < l.length) : w.cell? ⟨g, j, none⟩ = some (.int .u8 ((l[j]).toNat : Int)) := by
  unfold Row at h
  simp [World.cell?, h, vals, hj]
theorem Row.free {T : TypeId} {w : World} {g : Nat} {l : List UInt8} (h : Row T w g l) (j : Nat) : w.frozen? ⟨g, j, none⟩ = false := by
  unfold Row at h
  simp [World.frozen?, h]
theorem Row.lt {T : TypeId} {w : World} {g : Nat} {l : List UInt8} (h : Row T w g l) : g < w.heap.size := (Array.getElem?_eq_some_iff.1 h).1
theorem Row.set {T : TypeId} {w : World} {g : Nat} {l : List UInt8} (h : Row T w g l) (j : Nat) (y : UInt8) : Row T (w.setCell ⟨g, j, none⟩ (.int .u8 (y.toNat : Int))) g (l.set j y) := by
  have hlt := h.lt
  have hv : w.heap[g] = .cells (vals l).toArray T (0, 0) := (Array.getElem?_eq_some_iff.1 h).2
  show (w.heap.modify g _)[g]? = _
  rw [Array.getElem?_eq_getElem (by simpa using hlt), Array.getElem_modify_self, hv]
  simp [vals, List.map_set]

theorem Row.holds {T : TypeId} {w : World} {g : Nat} {l : List UInt8} (h : Row T w g l) (c : Nat) : Lib.HoldsBytes w (.slice (some ⟨g, 0, none⟩) l.length c) l := by
  refine ⟨some ⟨g, 0, none⟩, c, rfl, (fun e => by cases e), fun a ha i x hx => ?_⟩
  cases ha
  have hi : i < l.length := (List.getElem?_eq_some_iff.1 hx).1
  have hadd : (⟨g, 0, none⟩ : Addr).add i = ⟨g, i, none⟩ := by unfold Addr.add; split <;> simp_all
  rw [hadd, h.cell i hi]
  rw [(List.getElem?_eq_some_iff.1 hx).2]

theorem Row.block {T : TypeId} {w w' : World} {g : Nat} {l : List UInt8} (h : Row T w g l) (hb : w'.heap[g]? = w.heap[g]?) : Row T w' g l := by
  unfold Row at *; rw [hb]; exact h

theorem holds_below {B : Nat} {w w' : World} {v : Value} {l : List UInt8} (h : Lib.HoldsBytes w v l) (hb : Below B w w') (hB : w.heap.size ≤ B) : Lib.HoldsBytes w' v l := by
  obtain ⟨p, cap, rfl, h1, h2⟩ := h
  exact ⟨p, cap, rfl, h1, fun a ha i x hx => Lib.Below.cellOf hb (h2 a ha i x hx) hB⟩

/-- what 'copy' asks of its source -/
theorem holds_src {w w' : World} {p : Option Addr} {n c : Nat} {l : List UInt8} (h : Lib.HoldsBytes w (.slice p n c) l) (hb : Below w.heap.size w w') :
    n = l.length ∧ (0 < (vals l).length → ∃ ad, p = some ad ∧ ∀ j v, (vals l)[j]? = some v → w'.cell? (ad.add j) = some v) := by
  obtain ⟨q, cap, he, h1, h2⟩ := h
  cases he
  refine ⟨rfl, fun hp => ?_⟩
  rw [length_vals] at hp
  cases p with
  | none => have := h1 rfl; subst this; simp at hp
  | some ad =>
    refine ⟨ad, rfl, fun j v hv => ?_⟩
    obtain ⟨x, hx, rfl⟩ := vals_get hv
    exact Lib.Below.cellOf hb (h2 ad rfl j x hx) (Nat.le_refl _)

theorem splice_front (l : List UInt8) (m : Nat) : splice (vals (zs (l.length + m))) 0 (vals l) = vals (l ++ zs m) := by
  simp [splice, vals, zs]
end Go.Proofs.YtjhnagipagkhiaaGreat
