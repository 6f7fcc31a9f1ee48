/- The program's disk and the document's own one: what makes them the same, kept by each operation. No program here. -/
import Derived.Test.YtnjandmlhncapaaRefCr
import Derived.Test.YtnjandmlhncapaaChoiceP
namespace Go.Proofs.Ytnjandmlhncapaa
open Go.RowKit

/-- a fuse as the document has it -/
def fz (lit : Bool) (n : Int) : Int := if lit = true then n else -1
theorem fz_hit {lit : Bool} {n : Int} (h : hit lit n = true) : fz lit n = 0 := by
  unfold hit at h
  rw [Bool.and_eq_true] at h
  unfold fz
  rw [if_pos h.1]
  exact beq_iff_eq.1 h.2
theorem fz_not {lit : Bool} {n : Int} (h : hit lit n = false) : fz lit n ≠ 0 := by
  unfold hit at h
  unfold fz
  cases lit
  · rw [if_neg (by decide)]; decide
  · rw [if_pos rfl]
    intro e
    rw [e] at h
    exact absurd h (by decide)
theorem fz_burn {lit : Bool} {n : Int} (h : hit lit n = false) (h0 : lit = true → 0 ≤ n) : bFail (fz lit n) = fz lit (burnt lit n) := by
  have h1 := fz_not h
  unfold bFail
  unfold fz burnt at *
  cases lit
  · rfl
  · rw [if_pos rfl] at h1
    have := h0 rfl
    simp only [if_true]
    rw [if_pos (by omega)]
theorem fz_low {lit : Bool} {n : Int} (h0 : lit = true → 0 ≤ n) : -1 ≤ fz lit n := by
  unfold fz
  split
  · have := h0 ‹_›; omega
  · decide
theorem fz_high {lit : Bool} {n : Int} (h0 : lit = true → n < 9223372036854775808) : fz lit n < 9223372036854775808 := by
  unfold fz
  split
  · exact h0 ‹_›
  · decide
theorem fz_max {n : Int} : fz (decide (0 ≤ n)) n = max n (-1) := by
  unfold fz
  by_cases h : 0 ≤ n
  · rw [if_pos (decide_eq_true h)]; omega
  · rw [if_neg (by rw [decide_eq_false h]; decide)]; omega

/-- the sectors of both are the same -/
def Secs (d : Dk) (S : List Sc) : Prop := S.length = d.held.length ∧ ∀ i : Nat, i < d.held.length → ∃ c, S[i]? = some ⟨bl (d.hold i), c, (d.cache i).isSome⟩ ∧ Blk c ∧ ∀ b, d.cache i = some b → c = bl b

structure Tw (d : Dk) (S : List Sc) (ops ar fl : Int) (dead : Bool) : Prop where
  secs : Secs d S
  ops : ops = d.ops
  dead : dead = d.dead
  fuse : d.dead = false → ar = fz d.al d.an ∧ fl = fz d.fl d.fn

theorem Secs.ok {d : Dk} {S : List Sc} (h : Secs d S) (hG : Good d) : ∀ s ∈ S, s.Ok := by
  intro s hs
  obtain ⟨i, hi⟩ := List.mem_iff_getElem?.1 hs
  have hl : i < S.length := (List.getElem?_eq_some_iff.1 hi).1
  obtain ⟨c, hc, hb, _⟩ := h.2 i (by rw [← h.1]; exact hl)
  rw [hi] at hc
  obtain rfl := Option.some.inj hc
  exact ⟨blk_bl (Dk.hold_len hG (by omega) (by rw [← h.1]; omega)), hb⟩
theorem Secs.n {d : Dk} {S : List Sc} (h : Secs d S) (hG : Good d) : S.length ≤ 4096 := by rw [h.1]; have := hG.n; omega

theorem Secs.says {d : Dk} {S : List Sc} (h : Secs d S) {i : Nat} (hi : i < d.held.length) {s : Sc} (hs : S[i]? = some s) : (if s.is then s.c else s.h) = bl (d.says i) := by
  obtain ⟨c, hc, _, hb⟩ := h.2 i hi
  rw [hs] at hc
  obtain rfl := Option.some.inj hc
  unfold Dk.says
  cases hd : d.cache i with
  | none => rfl
  | some b => exact hb b hd
theorem Secs.held {d : Dk} {S : List Sc} (h : Secs d S) {i : Nat} (hi : i < d.held.length) {s : Sc} (hs : S[i]? = some s) : s.h = bl (d.hold i) := by
  obtain ⟨c, hc, _, _⟩ := h.2 i hi
  rw [hs] at hc
  obtain rfl := Option.some.inj hc
  rfl

theorem Secs.new (n : Nat) : Secs (dNew n) (List.replicate n ⟨blk 0, blk 0, false⟩) := by
  refine ⟨by simp [dNew], fun i hi => ⟨blk 0, ?_, blk_blk 0, fun b hb => by cases hb⟩⟩
  have hi' : i < n := by simpa [dNew] using hi
  rw [List.getElem?_replicate, if_pos hi']
  have : (dNew n).hold i = z64 := by
    unfold Dk.hold dNew
    simp only [Int.toNat_natCast]
    rw [List.getElem?_replicate, if_pos hi']; rfl
  rw [this, bl_z64]; rfl
theorem Tw.new (n : Nat) : Tw (dNew n) (List.replicate n ⟨blk 0, blk 0, false⟩) 0 (-1) (-1) false := ⟨Secs.new n, rfl, rfl, fun _ => ⟨rfl, rfl⟩⟩

theorem Secs.same {d d' : Dk} {S : List Sc} (h : Secs d S) (h1 : d'.held = d.held) (h2 : d'.cache = d.cache) : Secs d' S := by
  unfold Secs Dk.hold at *
  rw [h1, h2]; exact h

theorem Secs.write {d : Dk} {S : List Sc} (h : Secs d S) {i : Nat} {b : List Int} (hb : b.length = 64) (hi : i < d.held.length) {s : Sc} (hs : S[i]? = some s) : Secs (dWrite d i b) (S.set i ⟨s.h, bl b, true⟩) := by
  refine ⟨by rw [List.length_set]; exact h.1, fun j hj => ?_⟩
  have hj' : j < d.held.length := hj
  by_cases e : i = j
  · subst e
    refine ⟨bl b, ?_, blk_bl hb, fun b' hb' => ?_⟩
    · rw [List.getElem?_set_self (by rw [h.1]; exact hi), h.held hi hs]
      show some _ = some (Sc.mk (bl (d.hold i)) _ ((upd d.cache i b) i).isSome)
      unfold upd
      rw [if_pos rfl]; rfl
    · have : upd d.cache i b i = some b' := hb'
      unfold upd at this
      rw [if_pos rfl] at this
      rw [Option.some.inj this]
  · obtain ⟨c, hc, hk, hv⟩ := h.2 j hj'
    have hn : (j : Int) ≠ i := by omega
    have hu : (dWrite d i b).cache j = d.cache j := by
      show upd d.cache i b j = _
      unfold upd
      rw [if_neg hn]
    refine ⟨c, ?_, hk, ?_⟩
    · rw [List.getElem?_set_ne e, hc, hu]; rfl
    · rw [hu]; exact hv

theorem stl_get (g : Nat → Bool) : ∀ (S : List Sc) (k i : Nat), (stl g k S)[i]? = S[i]?.map (fun s => if s.is then ⟨if g (k + cnt (S.take i)) then s.c else s.h, blk 0, false⟩ else s)
  | [], _, _ => by simp [stl]
  | s :: r, k, 0 => by
    rw [stl_cons]
    cases hs : s.is <;> simp [hs, cnt] <;> rfl
  | s :: r, k, i + 1 => by
    rw [stl_cons]
    have hc : cnt ((s :: r).take (i + 1)) = cnt (r.take i) + if s.is then 1 else 0 := by
      rw [List.take_succ_cons]
      unfold cnt
      rw [List.countP_cons]
    cases hs : s.is
    · rw [if_neg (by decide), List.getElem?_cons_succ, List.getElem?_cons_succ, stl_get g r k i, hc, hs]
      simp
    · rw [if_pos rfl, List.getElem?_cons_succ, List.getElem?_cons_succ, stl_get g r (k + 1) i, hc, hs]
      simp only [if_true]
      rw [show k + 1 + cnt (r.take i) = k + (cnt (r.take i) + 1) by omega]

theorem countP_below (q : Int → Bool) (i : Nat) : ∀ n : Nat, i ≤ n → (List.range n).countP (fun j : Nat => decide ((j : Int) < (i : Int)) && q (j : Int)) = (List.range i).countP (fun j : Nat => q (j : Int))
  | 0, h => by
    have : i = 0 := by omega
    subst this; rfl
  | n + 1, h => by
    by_cases e : i = n + 1
    · subst e
      refine List.countP_congr fun j hj => ?_
      have := List.mem_range.1 hj
      rw [decide_eq_true (show (j : Int) < ((n + 1 : Nat) : Int) by omega), Bool.true_and]
    · rw [List.range_succ, List.countP_append, countP_below q i n (by omega), List.countP_singleton, decide_eq_false (by omega), Bool.false_and]
      rfl
theorem nthOf_eq (d : Dk) {i : Nat} (hi : i ≤ d.held.length) : nthOf d i = (List.range i).countP (fun j : Nat => (d.cache (j : Int)).isSome) := by
  unfold nthOf Dk.pend
  rw [List.countP_filter, List.countP_map, ← countP_below (fun x => (d.cache x).isSome) i d.held.length hi]
  rfl
theorem Secs.cntN {d : Dk} {S : List Sc} (h : Secs d S) : ∀ i : Nat, i ≤ d.held.length → cnt (S.take i) = (List.range i).countP (fun j : Nat => (d.cache (j : Int)).isSome)
  | 0, _ => by simp [cnt]
  | i + 1, hi => by
    obtain ⟨c, hc, _, _⟩ := h.2 i (by omega)
    rw [cnt_next hc, h.cntN i (by omega), List.range_succ, List.countP_append, List.countP_singleton]

theorem Secs.settle {d : Dk} {S : List Sc} (h : Secs d S) (hG : Good d) (g : Nat → Bool) {d' : Dk} (h1 : d'.held = (sett g d.cache d.held d.pend).2) (h2 : d'.cache = fun _ => none) : Secs d' (stl g 0 S) := by
  refine ⟨by rw [stl_len, h.1, h1, sett_len], fun i hi => ?_⟩
  have hi' : i < d.held.length := by rw [h1, sett_len] at hi; exact hi
  obtain ⟨c, hc, hk, hv⟩ := h.2 i hi'
  have hs := sett_get g d.cache d.held (i : Int) (by omega) _ d.pend rfl (Dk.rising hG).lt (fun x hx => by have := Dk.pend_mem hG hx; omega)
  have hcon : d.pend.contains (i : Int) = (d.cache i).isSome := by
    rw [Bool.eq_iff_iff, List.contains_iff_mem, (Dk.rising hG).mem, cf_some]
  have hn : nthOf d i = cnt (S.take i) := by rw [nthOf_eq d (by omega), h.cntN i (by omega)]
  have hhold : d'.hold i = if ((d.cache i).isSome && g (cnt (S.take i))) = true then ((d.cache i).getD []) else d.hold i := by
    show ((d'.held)[((i : Nat) : Int).toNat]?).getD [] = _
    rw [h1, hs, hcon]
    rw [show (d.pend.countP fun x => decide (x < (i : Int))) = cnt (S.take i) from hn]
    split <;> rfl
  rw [stl_get, hc, hhold, h2]
  simp only [Option.map_some, Nat.zero_add]
  cases hd : d.cache i with
  | none =>
    refine ⟨c, ?_, hk, fun b hb => by cases hb⟩
    simp
  | some b =>
    refine ⟨blk 0, ?_, blk_blk 0, fun b hb => by cases hb⟩
    have hb := hv b hd
    subst hb
    simp only [Option.isSome_some, if_true, Bool.true_and, Option.getD_some, Option.isSome_none]
    by_cases hg : g (cnt (S.take i)) = true
    · rw [if_pos hg, if_pos hg]
    · rw [if_neg hg, if_neg hg]

/-- the numbers of the sectors that are pending, as the document counts them -/
def pendS (S : List Sc) : List Int := ((List.range S.length).map Int.ofNat).filter fun k => ((S[k.toNat]?).map (·.is)).getD false
theorem Secs.pend {d : Dk} {S : List Sc} (h : Secs d S) : pendS S = d.pend := by
  unfold pendS Dk.pend
  rw [h.1]
  refine List.filter_congr fun k hk => ?_
  obtain ⟨j, hj, rfl⟩ := List.mem_map.1 hk
  obtain ⟨c, hc, _, _⟩ := h.2 j (List.mem_range.1 hj)
  show (((S[((j : Nat) : Int).toNat]?).map (·.is)).getD false) = _
  rw [Int.toNat_natCast, hc]
  rfl

end Go.Proofs.Ytnjandmlhncapaa
