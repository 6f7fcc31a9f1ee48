/- Two rows of bytes held against one another (bursaryref01.Same); a row copied behind an empty one. -/
import Derived.Test.YthjmmnbfjahamaaDoorTied
namespace Go.Proofs.YthjmmnbfjahamaaDoor
open Go.RowKit

theorem holds_at {w : World} {p : Option Addr} {n c : Nat} {l : List UInt8} (h : Lib.HoldsBytes w (.slice p n c) l) (i : Nat) (hi : i < n) :
    ∃ a b, p = some a ∧ l[i]? = some b ∧ ∀ j, (w.drewN j).cell? (a.add i) = some (.int .u8 (b.toNat : Int)) := by
  obtain ⟨q, cap, he, h1, h2⟩ := h
  cases he
  cases p with
  | none => rw [h1 rfl] at hi; simp at hi
  | some a => exact ⟨a, l[i], rfl, List.getElem?_eq_getElem hi, fun j => by rw [World.cell?_drewN]; exact h2 a rfl i _ (List.getElem?_eq_getElem hi)⟩

theorem take_snoc' {l : List UInt8} {i : Nat} {b : UInt8} (h : l[i]? = some b) : l.take (i + 1) = l.take i ++ [b] := by rw [List.take_add_one, h]; rfl

def SamePost (w : World) (l k : List UInt8) (e : Ending) (w' : World) : Prop := e = .returned (.bool (l == k)) ∧ ∃ j, w' = w.drewN j
def SameRel (w wr : World) (l k : List UInt8) (i : Nat) : Prop := l.take i = k.take i ∧ ∃ j, wr = w.drewN j

set_option maxHeartbeats 400000 in
theorem same_any (p q : Option Addr) (n c m d : Nat) (l k : List UInt8) (w : World) (h1 : Lib.HoldsBytes w (.slice p n c) l) (h2 : Lib.HoldsBytes w (.slice q m d) k) (hn : n ≤ 140737488355328) :
    Calls Tryd.prog 13 #[.slice p n c, .slice q m d] w (SamePost w l k) := by
  have e1 := Lib.hid (holds_len h1)
  have e2 := Lib.hid (holds_len h2)
  by_cases hnm : n = m
  · subst hnm
    have g1 := Lib.hid h1
    have g2 := Lib.hid h2
    clear h1 h2
    go_enter Tryd.func13, Tryd.ntmps13
    go_wp2
    go_loopw [5] (fun v5 wr => ∃ i : Nat, i ≤ n ∧ v5 = .int .i64 i ∧ SameRel w wr l k i) (fun v5 _ => n - (intOf v5).toNat)
    case atStart => exact ⟨0, Nat.zero_le _, rfl, rfl, 0, rfl⟩
    case round =>
      obtain ⟨i, hi, rfl, hr, j, rfl⟩ := hrel
      by_cases hlt : i < n
      · obtain ⟨a, x, rfl, hx, cx⟩ := holds_at g1.out i hlt
        obtain ⟨b, y, rfl, hy, cy⟩ := holds_at g2.out i hlt
        have cx0 := cx j
        have cy0 := cy j
        have cx1 := cx (j + 1)
        have cy1 := cy (j + 1)
        have hrel1 := Lib.hid hr
        have hx1 := Lib.hid hx
        have hy1 := Lib.hid hy
        clear hr hx hy cx cy
        by_cases hxy : x = y
        · subst hxy
          go_wp2
          go_region
          all_goals
            go_wp2
            go_roundw
            case rel => exact ⟨i + 1, by omega, by go_num, by rw [take_snoc' hx1.out, take_snoc' hy1.out, hrel1.out], j + 1, rfl⟩
            case measure => simp [intOf]; omega
        · have hb : (((x.toNat : Int)) != (y.toNat : Int)) = true := by
            simp; intro h; exact hxy (UInt8.toNat_inj.1 (by exact_mod_cast h))
          have hne := Lib.hid hxy
          clear hxy
          go_wp2
          go_region
          all_goals
            go_wp2
            go_ret
            refine ⟨?_, j + 1, rfl⟩
            have : l ≠ k := fun e => hne.out (by have h3 := hx1.out; rw [e, hy1.out] at h3; exact (Option.some.inj h3).symm)
            simp [this]
      · obtain rfl : i = n := by omega
        go_wp2
        go_ret
        refine ⟨?_, j, rfl⟩
        rw [List.take_of_length_le (by rw [← e1.out]; exact Nat.le_refl _), List.take_of_length_le (by rw [← e2.out]; exact Nat.le_refl _)] at hr
        simp [hr]
  · have hb : ((n : Int) != (m : Int)) = true := by simp; omega
    clear h1 h2
    have hne := Lib.hid hnm
    clear hnm
    go_enter Tryd.func13, Tryd.ntmps13
    go_wp2
    go_ret
    refine ⟨?_, 0, rfl⟩
    have : l ≠ k := fun e => hne.out (by rw [e1.out, e2.out, e])
    simp [this]


theorem same_below (p q : Option Addr) (n c m d : Nat) (l k : List UInt8) (w : World) (h1 : Lib.HoldsBytes w (.slice p n c) l) (h2 : Lib.HoldsBytes w (.slice q m d) k) (hn : n ≤ 140737488355328) :
    Calls Tryd.prog 13 #[.slice p n c, .slice q m d] w (fun e w' => e = .returned (.bool (l == k)) ∧ Below w.heap.size w w') :=
  (same_any p q n c m d l k w h1 h2 hn).mono fun _ _ ⟨he, j, hj⟩ => ⟨he, by subst hj; exact below_drewN (Below.refl _ _) j⟩

structure GrowRel (w wr : World) (q : Option Addr) (n c : Nat) (l : List UInt8) : Prop where
  below : Below w.heap.size w wr
  own : Own wr w.heap.size (.slice q n c) l

theorem GrowRel.next {w wr w1 : World} {q q1 : Option Addr} {n c n1 c1 : Nat} {l l1 : List UInt8} {A : Obj} (h : GrowRel w wr q n c l) (ho : Own w1 w.heap.size (.slice q1 n1 c1) l1) (hg : (wr.alloc A).grownBy w1 (blockOf q)) : GrowRel w w1 q1 n1 c1 l1 :=
  ⟨(h.below.alloc h.below.size A).grown hg (by have := h.below.size; simp; omega) (fun k e => by
    cases q with
    | none => cases e
    | some a => cases e; exact (h.own.holds.2.2 a rfl).1), ho⟩

theorem GrowRel.start {w w1 : World} {q : Option Addr} {n c : Nat} {l : List UInt8} {A : Obj} (ho : Own w1 w.heap.size (.slice q (0 + n) c) ([] ++ l)) (hg : (w.alloc A).grownBy w1 (blockOf (some ⟨w.heap.size, 0, none⟩))) : GrowRel w w1 q n c l :=
  ⟨((Below.refl w.heap.size w).alloc (Nat.le_refl _) A).grown hg (by simp) (fun k e => by cases e; exact Nat.le_refl _), by rw [Nat.zero_add, List.nil_append] at ho; exact ho⟩

/-- 'append([]byte{}, b...)' behind whatever came before -/
theorem own_copy {w w1 w2 : World} {q : Option Addr} {n c : Nat} {l : List UInt8} {A : Obj} (hb : Below w.heap.size w w1) (ho : Own w2 w1.heap.size (.slice q (0 + n) c) ([] ++ l)) (hg : (w1.alloc A).grownBy w2 (blockOf (some ⟨w1.heap.size, 0, none⟩))) :
    Below w.heap.size w w2 ∧ Own w2 w1.heap.size (.slice q n c) l ∧ Below w1.heap.size w1 w2 := by
  have h := GrowRel.start ho hg
  exact ⟨hb.trans (h.below.mono hb.size), h.own, h.below⟩

end Go.Proofs.YthjmmnbfjahamaaDoor
