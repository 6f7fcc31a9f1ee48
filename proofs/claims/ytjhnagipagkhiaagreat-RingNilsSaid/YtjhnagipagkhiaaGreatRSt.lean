/- A ring, its disk, its entries and its note, as they lie in memory; what leaves it as it is. -/
import Derived.Test.YtjhnagipagkhiaaGreatRLn
import Derived.Test.YtjhnagipagkhiaaGreatOwnV
namespace Go.Proofs.YtjhnagipagkhiaaGreat
open Go.RowKit

/-- bytes that lie from block B on -/
structure Ent (B : Nat) (w : World) (v : Value) (e : List UInt8) : Prop where
  holds : Lib.HoldsBytes w v e
  lies : ∃ q n c, v = .slice q n c ∧ ∀ a, q = some a → B ≤ a.block ∧ a.block < w.heap.size ∧ n ≤ c
theorem Ent.keep {B : Nat} {w w' : World} {v : Value} {e : List UInt8} (h : Ent B w v e) (hs : w.heap.size ≤ w'.heap.size) (hb : ∀ a n c, v = .slice (some a) n c → B ≤ a.block → a.block < w.heap.size → w'.heap[a.block]? = w.heap[a.block]?) : Ent B w' v e := by
  obtain ⟨q, n, c, rfl, hl⟩ := h.lies
  refine ⟨?_, q, n, c, rfl, fun a ha => ⟨(hl a ha).1, Nat.lt_of_lt_of_le (hl a ha).2.1 hs, (hl a ha).2.2⟩⟩
  obtain ⟨p, cap, he, h1, h2⟩ := h.holds
  cases he
  refine ⟨q, c, rfl, h1, fun a ha i x hx => ?_⟩
  rw [World.cell?_of_block (w := w) (by rw [add_block]; exact hb a _ _ (by rw [ha]) (hl a ha).1 (hl a ha).2.1)]
  exact h2 a ha i x hx

theorem Ent.of_new {B C : Nat} {w : World} {q : Option Addr} {n c : Nat} {e : List UInt8} (h : New C w (.slice q n c) e) (hB : B ≤ C) : Ent B w (.slice q n c) e :=
  ⟨h.1, q, n, c, rfl, fun a ha => by subst ha; have := h.2 a n c rfl; exact ⟨by omega, this.2.1, this.2.2⟩⟩

/-- a ring on a disk: its values vs are the entries es -/
structure RgOn (w : World) (rg : Nat) (p : Pl) (d : Dk) (x : RgV) (vs : List Value) (es : List (List UInt8)) (note : List UInt8) : Prop where
  disk : At w p d
  low : ∀ j ∈ p.L, j < rg
  here : RgAt w rg x
  dp : x.dp = ptr p
  own : OwnV 30 w (rg + 1) (.slice x.eq x.el x.ec) vs
  len : vs.length = es.length
  ent : ∀ (i : Nat) (v : Value) (e : List UInt8), vs[i]? = some v → es[i]? = some e → Ent (rg + 1) w v e
  note : Ent (rg + 1) w (.slice x.nq x.nl x.nc) note
  apart : ∀ a, x.eq = some a → (∀ v ∈ vs, ∀ b n c, v = .slice (some b) n c → b.block ≠ a.block) ∧ ∀ b, x.nq = some b → b.block ≠ a.block

theorem RgOn.far {w : World} {rg : Nat} {p : Pl} {d : Dk} {x : RgV} {vs : List Value} {es : List (List UInt8)} {note : List UInt8} (h : RgOn w rg p d x vs es note) {k : Nat} (hk : rg ≤ k) : k ∉ p.L := fun hin => by have := h.low k hin; omega
theorem RgOn.tch {w w' : World} {rg : Nat} {p : Pl} {d d' : Dk} {x : RgV} {vs : List Value} {es : List (List UInt8)} {note : List UInt8} (h : RgOn w rg p d x vs es note) (hA : At w' p d') (hT : Tch p.L w w') : RgOn w' rg p d' x vs es note :=
  ⟨hA, h.low, RowV.tch h.here hT (h.far (Nat.le_refl _)), h.dp, h.own.kept fun a ha => hT.block _ (h.own.far a ha).2 (h.far (by have := (h.own.far a ha).1; omega)), h.len,
    fun i v e h1 h2 => (h.ent i v e h1 h2).keep hT.size fun a _ _ _ hk hk2 => hT.block _ hk2 (h.far (by omega)), h.note.keep hT.size (fun a _ _ _ hk hk2 => hT.block _ hk2 (h.far (by omega))), h.apart⟩
theorem RgOn.below {w w' : World} {rg : Nat} {p : Pl} {d : Dk} {x : RgV} {vs : List Value} {es : List (List UInt8)} {note : List UInt8} (h : RgOn w rg p d x vs es note) (hb : Below w.heap.size w w') : RgOn w' rg p d x vs es note :=
  h.tch (h.disk.below hb) (Tch.of_below hb _)
theorem RgOn.size {w : World} {rg : Nat} {p : Pl} {d : Dk} {x : RgV} {vs : List Value} {es : List (List UInt8)} {note : List UInt8} (h : RgOn w rg p d x vs es note) : rg < w.heap.size := RowV.lt h.here
theorem RgOn.count {w : World} {rg : Nat} {p : Pl} {d : Dk} {x : RgV} {vs : List Value} {es : List (List UInt8)} {note : List UInt8} (h : RgOn w rg p d x vs es note) : x.el = es.length := by rw [h.own.len, h.len]

/-- the ring's own block has changed, and nothing else -/
theorem RgOn.turn {w w' : World} {rg : Nat} {p : Pl} {d : Dk} {x x' : RgV} {vs : List Value} {es : List (List UInt8)} {note note' : List UInt8} (h : RgOn w rg p d x vs es note) (hg : w.grownBy w' (some rg)) (hr : RgAt w' rg x')
    (hd : x'.dp = x.dp) (he : x'.eq = x.eq ∧ x'.el = x.el ∧ x'.ec = x.ec) (hn : Ent (rg + 1) w (.slice x'.nq x'.nl x'.nc) note') (ha : ∀ a, x.eq = some a → ∀ b, x'.nq = some b → b.block ≠ a.block) : RgOn w' rg p d x' vs es note' := by
  have hb : ∀ k, rg + 1 ≤ k → k < w.heap.size → w'.heap[k]? = w.heap[k]? := fun k h1 h2 => hg.block k h2 (fun e => by cases e; omega)
  refine ⟨h.disk.other1 hg (h.far (Nat.le_refl _)), h.low, hr, by rw [hd]; exact h.dp, ?_, h.len, fun i v e h1 h2 => (h.ent i v e h1 h2).keep hg.size (fun a _ _ _ => hb a.block), hn.keep hg.size (fun a _ _ _ => hb a.block), fun a e => ⟨(h.apart a (he.1 ▸ e)).1, ha a (he.1 ▸ e)⟩⟩
  rw [he.1, he.2.1, he.2.2]
  exact h.own.kept fun a ha => hb _ (h.own.far a ha).1 (h.own.far a ha).2

end Go.Proofs.YtjhnagipagkhiaaGreat
