/- A reader by what it has ahead and what it is stuck with: number and Raw in one contract each. -/
import Derived.Test.YtcniolmihpkmmaaGive
namespace Go.Proofs.Ytcniolmihpkmmaa
open Go.RowKit

def gOk (k : Int) (l : List UInt8) (err : Int) : Bool := err == 0 && decide (0 ≤ k) && decide (k ≤ l.length)
def numV (k : Int) (l : List UInt8) (err : Int) : Int := if gOk k l err then num (l.take k.toNat) else 0
def nextL (k : Int) (l : List UInt8) (err : Int) : List UInt8 := if gOk k l err then l.drop k.toNat else l
def nextE (k : Int) (l : List UInt8) (err : Int) : Int := if gOk k l err then 0 else if err = 0 then (if k < 0 then 2 else 7) else err
def rawL (k : Int) (l : List UInt8) (err : Int) : List UInt8 := if gOk k l err then l.take k.toNat else []

/-- The reader at block g has the bytes l ahead, in block d if there is one, and is stuck with err (0: it is not). -/
def Rdr (w : World) (g : Nat) (d : Option Nat) (l : List UInt8) (err : Int) : Prop :=
  ∃ p n c, RdrV w g p n c err ∧ Lib.HoldsBytes w (.slice p n c) l ∧ n ≤ c ∧ n ≤ 140737488355328 ∧ p.map (·.block) = d ∧ d ≠ some g ∧ ∀ x, d = some x → x < w.heap.size

theorem holds_len {w : World} {p : Option Addr} {n c : Nat} {l : List UInt8} (h : Lib.HoldsBytes w (.slice p n c) l) : n = l.length := by
  obtain ⟨_, _, he, _⟩ := h; cases he; rfl

theorem Rdr.keep {w w' : World} {g h : Nat} {d : Option Nat} {l : List UInt8} {err : Int} (r : Rdr w g d l err) (hg : w.grownBy w' (some h)) (h1 : h ≠ g) (h2 : d ≠ some h) : Rdr w' g d l err := by
  obtain ⟨p, n, c, hr, hv, hnc, hn, hp, hd, hx⟩ := r
  refine ⟨p, n, c, hr.block (hg.block g hr.lt (by simpa using fun e => h1 e.symm)), holds_block hv (fun a n c e => ?_), hnc, hn, hp, hd, fun x e => Nat.lt_of_lt_of_le (hx x e) hg.size⟩
  cases e
  have : d = some a.block := by rw [← hp]; rfl
  exact hg.block _ (hx _ this) (by simpa [this] using h2)

theorem Rdr.below {w w' : World} {g : Nat} {d : Option Nat} {l : List UInt8} {err : Int} (r : Rdr w g d l err) (hb : Below w.heap.size w w') : Rdr w' g d l err := by
  obtain ⟨p, n, c, hr, hv, hnc, hn, hp, hd, hx⟩ := r
  exact ⟨p, n, c, hr.block (hb.block g hr.lt), holds_below hv hb (Nat.le_refl _), hnc, hn, hp, hd, fun x e => Nat.lt_of_lt_of_le (hx x e) hb.size⟩

theorem below_grown {w w' : World} (hb : Below w.heap.size w w') (r : Option Nat) : w.grownBy w' r := ⟨hb.os, hb.tape, hb.output, hb.size, fun k hk _ => hb.block k hk⟩

theorem tl_block (p : Option Addr) (c k : Nat) : (tl p c k).map (·.block) = p.map (·.block) := by
  unfold tl
  split
  · rfl
  · cases p with
    | none => rfl
    | some a => simp only [Option.map_some]; congr 1; unfold Addr.add; split <;> rfl

theorem holds_drop {w : World} {p : Option Addr} {n c k : Nat} {l : List UInt8} (h : Lib.HoldsBytes w (.slice p n c) l) (hk : k ≤ n) (hnc : n ≤ c) : Lib.HoldsBytes w (.slice (tl p c k) (n - k) (c - k)) (l.drop k) := by
  obtain ⟨q, cap, he, h1, h2⟩ := h
  cases he
  refine ⟨tl p c k, c - k, by rw [List.length_drop], fun hp => ?_, fun a ha i x hx => ?_⟩
  · unfold tl at hp
    split at hp
    · rw [h1 hp]; simp
    · cases p with
      | none => rw [h1 rfl]; simp
      | some a => cases hp
  · rw [List.getElem?_drop] at hx
    have hi : k + i < l.length := (List.getElem?_eq_some_iff.1 hx).1
    unfold tl at ha
    rw [if_neg (by omega)] at ha
    cases p with
    | none => cases ha
    | some b =>
      cases ha
      rw [Addr.add_add]
      exact h2 b rfl (k + i) x hx

theorem Rdr.next {w w' : World} {g n c k : Nat} {d : Option Nat} {p : Option Addr} {l : List UInt8} (hr : RdrV w' g (tl p c k) (n - k) (c - k) 0) (hv : Lib.HoldsBytes w (.slice p n c) l) (hg : w.grownBy w' (some g)) (hnc : n ≤ c) (hn : n ≤ 140737488355328)
    (hp : p.map (·.block) = d) (hd : d ≠ some g) (hx : ∀ x, d = some x → x < w.heap.size) (hk : k ≤ n) : Rdr w' g d (l.drop k) 0 := by
  refine ⟨_, _, _, hr, ?_, by omega, by omega, by rw [tl_block, hp], hd, fun x e => Nat.lt_of_lt_of_le (hx x e) hg.size⟩
  refine holds_block (holds_drop hv hk hnc) (fun a n' c' e => ?_)
  have : d = some a.block := by
    rw [← hp, ← tl_block p c k]
    injection e with e1
    rw [e1]; rfl
  exact hg.block _ (hx _ this) (by simpa [this] using hd)

theorem Rdr.same {w w' : World} {g n c : Nat} {d : Option Nat} {p : Option Addr} {l : List UInt8} {err : Int} (hr : RdrV w' g p n c err) (hv : Lib.HoldsBytes w (.slice p n c) l) (hg : w.grownBy w' (some g)) (hnc : n ≤ c) (hn : n ≤ 140737488355328)
    (hp : p.map (·.block) = d) (hd : d ≠ some g) (hx : ∀ x, d = some x → x < w.heap.size) : Rdr w' g d l err := by
  refine ⟨_, _, _, hr, ?_, hnc, hn, hp, hd, fun x e => Nat.lt_of_lt_of_le (hx x e) hg.size⟩
  refine holds_block hv (fun a n c e => ?_)
  have : d = some a.block := by
    rw [← hp]
    cases e; rfl
  exact hg.block _ (hx _ this) (by simpa [this] using hd)

def StepPost (v : Value) (w : World) (g : Nat) (d : Option Nat) (k : Int) (l : List UInt8) (err : Int) (e : Ending) (w' : World) : Prop :=
  e = .returned v ∧ w.grownBy w' (some g) ∧ Rdr w' g d (nextL k l err) (nextE k l err)

theorem number_any (g : Nat) (d : Option Nat) (k err : Int) (l : List UInt8) (w : World) (h : Rdr w g d l err) (hk0 : 0 ≤ k) (hk : k ≤ 8) :
    Calls Try.prog 61 #[.pointer (some ⟨g, 0, none⟩), .int .i64 k] w (StepPost (.int .u64 (numV k l err)) w g d k l err) := by
  obtain ⟨p, n, c, hr, hv, hnc, hn, hp, hd, hx⟩ := h
  have hl := holds_len hv
  obtain ⟨k, rfl⟩ : ∃ m : Nat, k = m := ⟨k.toNat, by omega⟩
  by_cases he : err = 0
  · subst he
    by_cases hkn : k ≤ n
    · have ok : gOk k l 0 = true := by simp [gOk]; omega
      refine (number_ok g n c k p l w hr hv hnc (fun a ha => hx _ (by rw [← hp, ha]; rfl)) hkn (by omega)).mono ?_
      rintro e w' ⟨rfl, hg, hr'⟩
      refine ⟨by simp [numV, ok], hg, ?_⟩
      simp only [nextL, nextE, ok, if_true, Int.toNat_natCast]
      exact Rdr.next hr' hv hg hnc hn hp hd hx hkn
    · have ok : gOk k l 0 = false := by simp [gOk]; omega
      refine (number_short g n c k p w hr (by omega)).mono ?_
      rintro e w' ⟨rfl, hg, hr'⟩
      refine ⟨by simp [numV, ok], hg, ?_⟩
      simp only [nextL, nextE, ok, if_neg (show ¬ ((k : Int) < 0) by omega), if_true]
      exact Rdr.same hr' hv hg hnc hn hp hd hx
  · have ok : gOk k l err = false := by simp [gOk, he]
    refine (number_stuck g n c k err p w hr he).mono ?_
    rintro e w' ⟨rfl, hb⟩
    refine ⟨by simp [numV, ok], below_grown hb _, ?_⟩
    simp only [nextL, nextE, ok, if_neg he]
    exact Rdr.below ⟨p, n, c, hr, hv, hnc, hn, hp, hd, hx⟩ hb

def RawStep (w : World) (g : Nat) (d : Option Nat) (k : Int) (l : List UInt8) (err : Int) (e : Ending) (w' : World) : Prop :=
  ∃ q c, e = .returned (.slice q (rawL k l err).length c) ∧ New w.heap.size w' (.slice q (rawL k l err).length c) (rawL k l err) ∧ w.grownBy w' (some g) ∧ Rdr w' g d (nextL k l err) (nextE k l err)

theorem new_nil (B : Nat) (w : World) : New B w (.slice none 0 0) [] := ⟨⟨none, 0, rfl, fun _ => rfl, fun a ha => by cases ha⟩, fun a n c h => by cases h⟩

theorem raw_any (g : Nat) (d : Option Nat) (k err : Int) (l : List UInt8) (w : World) (h : Rdr w g d l err) :
    Calls Try.prog 53 #[.pointer (some ⟨g, 0, none⟩), .int .i64 k] w (RawStep w g d k l err) := by
  obtain ⟨p, n, c, hr, hv, hnc, hn, hp, hd, hx⟩ := h
  have hl := holds_len hv
  by_cases he : err = 0
  · subst he
    by_cases hneg : k < 0
    · have ok : gOk k l 0 = false := by simp [gOk]; omega
      refine (raw_neg g n c k p w hr hneg).mono ?_
      rintro e w' ⟨rfl, hg, hr'⟩
      refine ⟨none, 0, by simp [rawL, ok], by simp only [rawL, ok]; exact new_nil _ _, hg, ?_⟩
      simp only [nextL, nextE, ok, if_pos hneg, if_true]
      exact Rdr.same hr' hv hg hnc hn hp hd hx
    · obtain ⟨k, rfl⟩ : ∃ m : Nat, k = m := ⟨k.toNat, by omega⟩
      by_cases hkn : k ≤ n
      · have ok : gOk k l 0 = true := by simp [gOk]; omega
        refine (raw_ok g n c k p l w hr hv hnc hkn (by omega)).mono ?_
        rintro e w' ⟨q, c', rfl, hnew, hg, hr'⟩
        have hlen : (rawL k l 0).length = k := by simp [rawL, ok]; omega
        refine ⟨q, c', by rw [hlen], by rw [hlen]; simpa [rawL, ok] using hnew, hg, ?_⟩
        simp only [nextL, nextE, ok, if_true, Int.toNat_natCast]
        exact Rdr.next hr' hv hg hnc hn hp hd hx hkn
      · have ok : gOk k l 0 = false := by simp [gOk]; omega
        refine (raw_short g n c k p w hr (by omega)).mono ?_
        rintro e w' ⟨rfl, hg, hr'⟩
        refine ⟨none, 0, by simp [rawL, ok], by simp only [rawL, ok]; exact new_nil _ _, hg, ?_⟩
        simp only [nextL, nextE, ok, if_neg hneg, if_true]
        exact Rdr.same hr' hv hg hnc hn hp hd hx
  · have ok : gOk k l err = false := by simp [gOk, he]
    refine (raw_stuck g n c k err p w hr he).mono ?_
    rintro e w' ⟨rfl, hb⟩
    refine ⟨none, 0, by simp [rawL, ok], by simp only [rawL, ok]; exact new_nil _ _, below_grown hb _, ?_⟩
    simp only [nextL, nextE, ok, if_neg he]
    exact Rdr.below ⟨p, n, c, hr, hv, hnc, hn, hp, hd, hx⟩ hb

theorem numV_lt (k : Nat) (l : List UInt8) (err : Int) : 0 ≤ numV k l err ∧ numV k l err < 256 ^ k := by
  unfold numV
  split
  · refine ⟨by omega, ?_⟩
    have h := num_lt (l.take k)
    have h2 : 256 ^ (l.take k).length ≤ 256 ^ k := Nat.pow_le_pow_right (by omega) (by rw [List.length_take]; omega)
    have h3 : num (l.take k) < 256 ^ k := by omega
    have : ((num (l.take k) : Nat) : Int) < ((256 ^ k : Nat) : Int) := by exact_mod_cast h3
    rw [Int.natCast_pow] at this; exact this
  · refine ⟨Int.le_refl _, ?_⟩
    have : ((0 : Nat) : Int) < ((256 ^ k : Nat) : Int) := Int.ofNat_lt.2 (Nat.pow_pos (by omega))
    rw [Int.natCast_pow] at this; exact this

end Go.Proofs.Ytcniolmihpkmmaa
