/- A disk of the program as it lies in memory: its struct, its sectors, its cache; what a call may touch. Nothing of the program is claimed here. -/
import Derived.Test.YtjhnagipagkhiaaGreatElems
import Derived.Test.YtjhnagipagkhiaaGreatKeys
namespace Go.Proofs.YtjhnagipagkhiaaGreat
open Go.RowKit

/-- a block's cells -/
def bl (b : List Int) : List Value := b.map (Value.int .u8)
abbrev agg (b : List Int) : Value := .agg (bl b).toArray
theorem bl_len (b : List Int) : (bl b).length = b.length := by simp [bl]
theorem bl_one (b : List Int) : ∀ v ∈ bl b, v.oneCell' = true := by
  intro v hv
  obtain ⟨x, _, rfl⟩ := List.mem_map.1 hv
  rfl
theorem bl_inj {a b : List Int} (h : bl a = bl b) : a = b := by
  unfold bl at h
  exact (List.map_inj_right (fun x y e => by cases e; rfl)).1 h
theorem agg_inj {a b : List Int} (h : agg a = agg b) : a = b := by
  injection h with h
  exact bl_inj (List.toArray_inj h)

/-- what a disk holds -/
structure Dk where
  held : List (List Int)
  cache : Int → Option (List Int)
  ops : Int
  dead : Bool
  al : Bool
  an : Int
  fl : Bool
  fn : Int

/-- where it lies -/
structure Pl where
  g : Nat
  h : Nat
  m : Nat
  c : Nat
def Pl.L (p : Pl) : List Nat := [p.g, p.h, p.m]

def cf (c : Int → Option (List Int)) : Int → Option Value := fun k => (c k).map agg
theorem cf_some {c : Int → Option (List Int)} {k : Int} : (cf c k).isSome = (c k).isSome := by unfold cf; cases c k <;> rfl

structure Good (d : Dk) : Prop where
  pos : 1 ≤ d.held.length
  n : d.held.length ≤ 2048
  held : ∀ b ∈ d.held, b.length = 64
  cache : ∀ k b, d.cache k = some b → 0 ≤ k ∧ k < d.held.length ∧ b.length = 64
  armed : d.al = true → 0 ≤ d.an ∧ d.an < 9223372036854775808
  fails : d.fl = true → 0 ≤ d.fn ∧ d.fn < 9223372036854775808

abbrev dkL (p : Pl) (d : Dk) : List Value := [.slice (some ⟨p.h, 0, none⟩) d.held.length p.c, .map (some p.m), .int .i64 d.ops, .bool d.dead, .bool d.al, .int .i64 d.an, .bool d.fl, .int .i64 d.fn]

structure At (w : World) (p : Pl) (d : Dk) : Prop where
  good : Good d
  row : RowV 80 w p.g (dkL p d)
  own : OwnE 48 64 w 0 (.slice (some ⟨p.h, 0, none⟩) d.held.length p.c) (d.held.map bl)
  map : ∃ cn, IMap .i64 w p.m cn (cf d.cache)

theorem OwnE.at_block {T : TypeId} {s : Nat} {w : World} {base h n c : Nat} {L : List (List Value)} (k : OwnE T s w base (.slice (some ⟨h, 0, none⟩) n c) L) : ∃ cs, RowV T w h cs := by
  obtain ⟨⟨_, ⟨he, _⟩ | ⟨g, cap, cur, he, _, hh, _⟩⟩, _⟩ := k
  · cases he
  · cases he
    exact ⟨cur.toList, by unfold RowV; simpa using hh⟩

theorem At.hlt {w : World} {p : Pl} {d : Dk} (k : At w p d) : p.h < w.heap.size := (k.own.holds.2.2 _ rfl).2
theorem At.glt {w : World} {p : Pl} {d : Dk} (k : At w p d) : p.g < w.heap.size := k.row.lt
theorem At.mlt {w : World} {p : Pl} {d : Dk} (k : At w p d) : p.m < w.heap.size := by obtain ⟨_, h⟩ := k.map; exact h.lt
theorem At.gh {w : World} {p : Pl} {d : Dk} (k : At w p d) : p.g ≠ p.h := by
  obtain ⟨cs, hr⟩ := k.own.at_block
  have hg := k.row
  intro e
  unfold RowV at hr hg
  rw [e, hr] at hg
  simp at hg
theorem At.gm {w : World} {p : Pl} {d : Dk} (k : At w p d) : p.g ≠ p.m := by
  obtain ⟨_, es, c, hm, _⟩ := k.map
  have hg := k.row
  intro e
  unfold RowV at hg
  rw [e, hm] at hg
  simp at hg
theorem At.hm {w : World} {p : Pl} {d : Dk} (k : At w p d) : p.h ≠ p.m := by
  obtain ⟨_, es, c, hm, _⟩ := k.map
  obtain ⟨cs, hr⟩ := k.own.at_block
  intro e
  unfold RowV at hr
  rw [e, hm] at hr
  simp at hr

theorem At.block {w w' : World} {p : Pl} {d : Dk} (k : At w p d) (hg : w'.heap[p.g]? = w.heap[p.g]?) (hh : w'.heap[p.h]? = w.heap[p.h]?) (hm : w'.heap[p.m]? = w.heap[p.m]?) : At w' p d := by
  obtain ⟨cn, h⟩ := k.map
  exact ⟨k.good, k.row.block hg, k.own.kept (fun a ha => by cases ha; exact hh), cn, h.block hm⟩
theorem At.below {w w' : World} {p : Pl} {d : Dk} (k : At w p d) (hb : Below w.heap.size w w') : At w' p d :=
  k.block (hb.block _ k.glt) (hb.block _ k.hlt) (hb.block _ k.mlt)
theorem At.alloc {w : World} {p : Pl} {d : Dk} (k : At w p d) (A : Obj) : At (w.alloc A) p d :=
  k.below ((Below.refl _ _).alloc (Nat.le_refl _) _)

/-- of the blocks that there were those of L alone may have turned -/
structure Tch (L : List Nat) (w w' : World) : Prop where
  os : w'.os = w.os
  tape : w'.tape = w.tape
  output : w'.output = w.output
  size : w.heap.size ≤ w'.heap.size
  block : ∀ k, k < w.heap.size → k ∉ L → w'.heap[k]? = w.heap[k]?

theorem Tch.refl (L : List Nat) (w : World) : Tch L w w := ⟨rfl, rfl, rfl, Nat.le_refl _, fun _ _ _ => rfl⟩
theorem Tch.trans {L : List Nat} {a b c : World} (h : Tch L a b) (k : Tch L b c) : Tch L a c :=
  ⟨k.os.trans h.os, k.tape.trans h.tape, k.output.trans h.output, Nat.le_trans h.size k.size, fun i hi hn => (k.block i (Nat.lt_of_lt_of_le hi h.size) hn).trans (h.block i hi hn)⟩
theorem Tch.of_below {w w' : World} (h : Below w.heap.size w w') (L : List Nat) : Tch L w w' := ⟨h.os, h.tape, h.output, h.size, fun k hk _ => h.block k hk⟩
theorem Tch.of_grown {w w' : World} {k : Nat} (h : w.grownBy w' (some k)) {L : List Nat} (hk : k ∈ L) : Tch L w w' :=
  ⟨h.os, h.tape, h.output, h.size, fun i hi hn => h.block i hi (fun e => hn (by cases e; exact hk))⟩
theorem Tch.alloc {L : List Nat} {a w : World} (h : Tch L a w) (A : Obj) : Tch L a (w.alloc A) := h.trans (Tch.of_below ((Below.refl _ _).alloc (Nat.le_refl _) _) L)
theorem Tch.drew {L : List Nat} {a w : World} (h : Tch L a w) : Tch L a w.drew := h.trans (Tch.of_below (Below.refl _ _).drew L)
theorem Tch.setCell {L : List Nat} {a w : World} (h : Tch L a w) {p : Addr} (hp : p.block ∈ L) (v : Value) : Tch L a (w.setCell p v) :=
  ⟨h.os, h.tape, h.output, by simpa [World.setCell] using h.size, fun k hk hn => (Below.heap_setCell _ _ _ _ (fun e => hn (by rw [e]; exact hp))).trans (h.block k hk hn)⟩
/-- a store into a block that was not there -/
theorem Tch.setNew {L : List Nat} {a w : World} (h : Tch L a w) {p : Addr} (hp : a.heap.size ≤ p.block) (v : Value) : Tch L a (w.setCell p v) :=
  ⟨h.os, h.tape, h.output, by simpa [World.setCell] using h.size, fun k hk hn => (Below.heap_setCell _ _ _ _ (by omega)).trans (h.block k hk hn)⟩
theorem Tch.grown {L : List Nat} {a w w' : World} (h : Tch L a w) {k : Nat} (hg : w.grownBy w' (some k)) (hk : k ∈ L ∨ a.heap.size ≤ k) : Tch L a w' :=
  ⟨hg.os.trans h.os, hg.tape.trans h.tape, hg.output.trans h.output, Nat.le_trans h.size hg.size, fun i hi hn => (hg.block i (Nat.lt_of_lt_of_le hi h.size) (fun e => by
    cases e
    rcases hk with hk | hk
    · exact hn hk
    · omega)).trans (h.block i hi hn)⟩
theorem Tch.more {L M : List Nat} {w w' : World} (h : Tch L w w') (hs : ∀ k ∈ L, k ∈ M) : Tch M w w' := ⟨h.os, h.tape, h.output, h.size, fun k hk hn => h.block k hk (fun hm => hn (hs k hm))⟩
/-- what lies beyond may be forgotten -/
theorem Tch.cut {L M : List Nat} {w w' : World} (h : Tch L w w') (hs : ∀ k ∈ L, k ∈ M ∨ w.heap.size ≤ k) : Tch M w w' :=
  ⟨h.os, h.tape, h.output, h.size, fun k hk hn => h.block k hk (fun hm => (hs k hm).elim hn (fun h => by omega))⟩
theorem Tch.to_below {L : List Nat} {w w' : World} {B : Nat} (h : Tch L w w') (hB : B ≤ w.heap.size) (hL : ∀ k ∈ L, B ≤ k) : Below B w w' :=
  ⟨h.os, h.tape, h.output, h.size, fun k hk => h.block k (Nat.lt_of_lt_of_le hk hB) (fun hm => by have := hL k hm; omega)⟩
theorem Tch.nil_below {w w' : World} (h : Tch [] w w') : Below w.heap.size w w' := h.to_below (Nat.le_refl _) (fun _ hk => by simp at hk)

theorem RowV.tch {T : TypeId} {w w' : World} {g : Nat} {cs : List Value} {L : List Nat} (h : RowV T w g cs) (ht : Tch L w w') (hn : g ∉ L) : RowV T w' g cs := h.block (ht.block g h.lt hn)
theorem At.tch {w w' : World} {p : Pl} {d : Dk} {L : List Nat} (k : At w p d) (ht : Tch L w w') (hg : p.g ∉ L) (hh : p.h ∉ L) (hm : p.m ∉ L) : At w' p d :=
  k.block (ht.block _ k.glt hg) (ht.block _ k.hlt hh) (ht.block _ k.mlt hm)

theorem g_in (p : Pl) : p.g ∈ p.L := by simp [Pl.L]
theorem h_in (p : Pl) : p.h ∈ p.L := by simp [Pl.L]
theorem m_in (p : Pl) : p.m ∈ p.L := by simp [Pl.L]

/-- the struct has turned -/
theorem At.struct {w w' : World} {p : Pl} {d d' : Dk} (k : At w p d) (hg : w.grownBy w' (some p.g)) (hr : RowV 80 w' p.g (dkL p d')) (h1 : d'.held = d.held) (h2 : d'.cache = d.cache) (hG : Good d') : At w' p d' := by
  obtain ⟨cn, h⟩ := k.map
  refine ⟨hG, hr, ?_, cn, ?_⟩
  · rw [h1]
    exact k.own.kept (fun a ha => by cases ha; exact hg.block _ k.hlt (fun e => k.gh (Option.some.inj e).symm))
  · rw [h2]
    exact h.block (hg.block _ k.mlt (fun e => k.gm (Option.some.inj e).symm))

/-- a field of the struct was stored -/
theorem At.field {w : World} {p : Pl} {d d' : Dk} (k : At w p d) (j : Nat) (v : Value) (hL : (dkL p d).set j v = dkL p d') (h1 : d'.held = d.held) (h2 : d'.cache = d.cache) (hG : Good d') : At (w.setCell ⟨p.g, j, none⟩ v) p d' := by
  refine k.struct (setCell_grown w p.g j v) ?_ h1 h2 hG
  rw [← hL]
  exact k.row.set j v

/-- the cache has turned -/
theorem At.cached {w w' : World} {p : Pl} {d : Dk} (k : At w p d) (hg : w.grownBy w' (some p.m)) {c' : Int → Option (List Int)} {cn : Nat} (hm : IMap .i64 w' p.m cn (cf c')) (hG : ∀ i b, c' i = some b → 0 ≤ i ∧ i < d.held.length ∧ b.length = 64) : At w' p { d with cache := c' } := by
  refine ⟨⟨k.good.pos, k.good.n, k.good.held, hG, k.good.armed, k.good.fails⟩, k.row.kept hg k.gm, k.own.kept (fun a ha => ?_), cn, hm⟩
  cases ha
  exact hg.block _ k.hlt (fun e => by first | exact k.hm (Option.some.inj e) | exact k.hm (Option.some.inj e).symm)

/-- a sector has turned -/
theorem At.stored {w : World} {p : Pl} {d : Dk} (k : At w p d) {i : Nat} (hi : i < d.held.length) {b : List Int} (hb : b.length = 64) :
    ∃ cs, RowV 48 w p.h cs ∧ i * 64 + (bl b).length ≤ cs.length ∧ ∀ w', RowV 48 w' p.h (splice cs (i * 64) (bl b)) → w.grownBy w' (some p.h) → At w' p { d with held := d.held.set i b } := by
  obtain ⟨g, cs, hq, _, hr, hfit, hback⟩ := k.own.store hi (by rw [bl_len, hb]) (bl_one b)
  cases hq
  refine ⟨cs, hr, hfit, fun w' hw hg => ?_⟩
  obtain ⟨cn, h⟩ := k.map
  have ho := hback w' hw
  refine ⟨⟨?_, ?_, ?_, ?_, k.good.armed, k.good.fails⟩, ?_, ?_, cn, h.block (hg.block _ k.mlt (fun e => by first | exact k.hm (Option.some.inj e) | exact k.hm (Option.some.inj e).symm))⟩
  · show 1 ≤ (d.held.set i b).length; rw [List.length_set]; exact k.good.pos
  · show (d.held.set i b).length ≤ 2048; rw [List.length_set]; exact k.good.n
  · intro x hx
    rcases List.mem_or_eq_of_mem_set hx with hx | rfl
    · exact k.good.held x hx
    · exact hb
  · intro j x hx
    show 0 ≤ j ∧ j < ((d.held.set i b).length : Nat) ∧ _
    rw [List.length_set]; exact k.good.cache j x hx
  · have hl : dkL p { d with held := d.held.set i b } = dkL p d := by simp [dkL]
    rw [hl]
    exact k.row.kept hg k.gh
  · show OwnE 48 64 w' 0 (.slice _ (d.held.set i b).length p.c) ((d.held.set i b).map bl)
    rw [List.length_set, List.map_set]
    exact ho

/-- what a sector holds -/
def Dk.hold (d : Dk) (i : Int) : List Int := (d.held[i.toNat]?).getD []
/-- what a sector says -/
def Dk.says (d : Dk) (i : Int) : List Int := (d.cache i).getD (d.hold i)
theorem Dk.hold_len {d : Dk} (h : Good d) {i : Int} (h0 : 0 ≤ i) (h1 : i < d.held.length) : (d.hold i).length = 64 := by
  unfold Dk.hold
  have hl : i.toNat < d.held.length := by omega
  rw [List.getElem?_eq_getElem hl]
  exact h.held _ (List.getElem_mem hl)
theorem Dk.says_len {d : Dk} (h : Good d) {i : Int} (h0 : 0 ≤ i) (h1 : i < d.held.length) : (d.says i).length = 64 := by
  unfold Dk.says
  cases hc : d.cache i with
  | none => exact Dk.hold_len h h0 h1
  | some b => exact (h.cache i b hc).2.2

/-- one sector's cells -/
theorem At.sector {w : World} {p : Pl} {d : Dk} (k : At w p d) {i : Int} (h0 : 0 ≤ i) (h1 : i < d.held.length) : ∀ j v, (bl (d.hold i))[j]? = some v → w.cell? (((⟨p.h, 0, none⟩ : Addr).add (i.toNat * 64)).add j) = some v := by
  obtain ⟨a, e, ha, he, hc⟩ := holdsE_at k.own.holds.1 k.own.2 (i := i.toNat) (by omega)
  cases ha
  have : e = bl (d.hold i) := by
    unfold Dk.hold
    rw [List.getElem?_map] at he
    obtain ⟨x, hx, rfl⟩ := Option.map_eq_some_iff.1 he
    rw [hx]; rfl
  rw [← this]
  exact hc

/-- the sectors that are pending -/
def Dk.pend (d : Dk) : List Int := ((List.range d.held.length).map Int.ofNat).filter fun k => (d.cache k).isSome
theorem Dk.rising {d : Dk} (h : Good d) : Rising (cf d.cache) d.pend := by
  refine ⟨?_, fun j => ?_⟩
  · unfold Dk.pend
    refine List.Pairwise.filter _ (List.pairwise_map.2 ?_)
    exact List.pairwise_lt_range.imp (fun {a b} hab => Int.ofNat_lt.2 hab)
  · unfold Dk.pend
    rw [List.mem_filter, List.mem_map, cf_some]
    constructor
    · rintro ⟨_, h⟩; exact h
    · intro hj
      refine ⟨?_, hj⟩
      obtain ⟨b, hb⟩ := Option.isSome_iff_exists.1 hj
      have := h.cache j b hb
      exact ⟨j.toNat, List.mem_range.2 (by omega), by show ((j.toNat : Nat) : Int) = j; omega⟩
theorem Dk.pend_len (d : Dk) : d.pend.length ≤ d.held.length := by
  unfold Dk.pend
  refine Nat.le_trans (List.length_filter_le _ _) ?_
  simp
theorem Dk.pend_mem {d : Dk} (h : Good d) {j : Int} (hj : j ∈ d.pend) : 0 ≤ j ∧ j < d.held.length ∧ ∃ b, d.cache j = some b ∧ b.length = 64 := by
  have := ((Dk.rising h).mem j).1 hj
  rw [cf_some] at this
  obtain ⟨b, hb⟩ := Option.isSome_iff_exists.1 this
  have := h.cache j b hb
  exact ⟨this.1, this.2.1, b, hb, this.2.2⟩

end Go.Proofs.YtjhnagipagkhiaaGreat
