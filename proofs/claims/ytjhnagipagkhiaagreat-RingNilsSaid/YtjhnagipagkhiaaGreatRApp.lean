/- Append: an entry is laid, and is the ring's last one then. -/
import Derived.Test.YtjhnagipagkhiaaGreatRAdd
namespace Go.Proofs.YtjhnagipagkhiaaGreat
open Go.RowKit

theorem nxt_len (turn number size place used : Nat) (entry : List UInt8) : ∀ y ∈ nxtL turn number size place used entry, y.2.length = 64 := by
  intro y hy
  obtain ⟨k, _, rfl⟩ := List.mem_map.1 hy
  refine pad_len ?_
  rw [markB_len]
  have : (nxtP entry.length k entry).length ≤ 52 := by
    unfold nxtP
    rw [List.length_take]
    omega
  omega

/-- laidNext's function, as a group that lay lays -/
theorem nxt_grp {w : World} {rg mB rB eB : Nat} {p : Pl} {x : RgV} {q : Option Addr} {c : Nat} {e : List UInt8} (h : NxR mB rB eB rg (mkL x.turn (x.first + x.el) e.length) (.slice q e.length c) e x.cells w)
    (hL : ∀ j ∈ p.L, j < rg) (hm : rg ≤ mB) (hr : rg ≤ rB) (he : rg ≤ eB) (hvT : ∀ W, Tch p.L w W → Lib.HoldsBytes W (.slice q e.length c) e) (hn : e.length ≤ 8000) (hec : e.length ≤ c) (ht : x.turn < 4294967296) (hp : x.place < 100000) (hs : x.size < 100000) (hu : x.used < 10000) :
    GrpOk w p ⟨85, #[], #[.pointer (some ⟨mB, 0, none⟩), .pointer (some ⟨rB, 0, none⟩), .pointer (some ⟨eB, 0, none⟩)], nxtL x.turn (x.first + x.el) x.size x.place x.used e⟩ := by
  have far : ∀ k, rg ≤ k → k ∉ p.L := fun k hk hin => by have := hL k hin; omega
  refine ⟨enters_of Tryz.func85 (by kernel_rfl) rfl, ⟨NxR mB rB eB rg (mkL x.turn (x.first + x.el) e.length) (.slice q e.length c) e x.cells, fun W hT => ?_, fun W => next_tells mB rB eB rg x.turn (x.first + x.el) x.turn x.size x.first x.place x.nl x.nc x.used x.nq q c x.dp (.slice x.eq x.el x.ec) (.bool x.br) e hn hec ht hp hs hu W⟩, nxt_len _ _ _ _ _ _, ?_⟩
  · exact ⟨h.m.tch hT (far _ hm), h.r.tch hT (far _ hr), h.e.tch hT (far _ he), hvT W hT, h.g.tch hT (far _ (Nat.le_refl _))⟩
  · show (nxtL _ _ _ _ _ _).length ≤ 2000
    unfold nxtL secs
    rw [List.length_map, List.length_range]
    omega

theorem append_full (rg : Nat) (p : Pl) (d : Dk) (x : RgV) (vs : List Value) (es : List (List UInt8)) (note : List UInt8) (q : Option Addr) (n c : Nat) (w : World) (h : RgOn w rg p d x vs es note) (hbr : x.br = false) (hn : n ≤ 8000) (hu : x.used ≤ x.size) (hs : x.size < 100000) (hfull : x.size - x.used < secs n) :
    Calls Tryz.prog 18 #[.pointer (some ⟨rg, 0, none⟩), .slice q n c] w (fun e' w' => e' = .returned (.int .i64 6) ∧ Below w.heap.size w w') := by
  have c8 : w.cell? ⟨rg, 8, none⟩ = some (.bool false) := by rw [← hbr]; exact h.here.c8
  have hsec := fun u => sectors_any n u (by omega)
  have hsn : secs n < 100000 := by unfold secs; omega
  have hlf := fun u hu2 => left_any rg x u hu2 hu hs
  have hh := Lib.hid h.here
  have hlt : ((x.size - x.used : Nat) : Int) < (secs n : Int) := by omega
  have h1 : (n : Int) ≤ 8000 := by omega
  clear h hfull
  obtain ⟨lf, hlf2⟩ : ∃ lf, x.size - x.used = lf := ⟨_, rfl⟩
  rw [hlf2] at hlf hlt
  clear hlf2
  go_enter Tryz.func18, Tryz.ntmps18
  go_wp2_with (first
    | (go_at_call 15; refine (hsec _).mono ?_; rintro e w' ⟨rfl, hw'⟩; obtain rfl := hw'.symm)
    | (go_at_call 23; refine (hlf _ hh.out).mono ?_; rintro e w' ⟨rfl, hb⟩))
  go_ret
  exact ⟨rfl, hb⟩

end Go.Proofs.YtjhnagipagkhiaaGreat
