/- A ring as it lies in memory; what its small methods tell: Left, First, next. -/
import Derived.Test.YtjhnagipagkhiaaGreatRNx
namespace Go.Proofs.YtjhnagipagkhiaaGreat
open Go.RowKit

/-- a ring's values -/
structure RgV where
  turn : Nat
  size : Nat
  first : Nat
  place : Nat
  nq : Option Addr
  nl : Nat
  nc : Nat
  dp : Value
  eq : Option Addr
  el : Nat
  ec : Nat
  used : Nat
  br : Bool
def RgV.cells (x : RgV) : List Value := hdL x.turn x.size x.first x.place x.nq x.nl x.nc ++ [x.dp, .slice x.eq x.el x.ec, .int .i64 x.used, .bool x.br]
def RgV.hd (x : RgV) : Value := .agg (hdL x.turn x.size x.first x.place x.nq x.nl x.nc).toArray

abbrev RgAt (w : World) (rg : Nat) (x : RgV) : Prop := RowV 96 w rg x.cells
theorem RgAt.c1 {w : World} {rg : Nat} {x : RgV} (h : RgAt w rg x) : w.cell? ⟨rg, 1, none⟩ = some (.int .i64 x.size) := h.cell 1
theorem RgAt.c2 {w : World} {rg : Nat} {x : RgV} (h : RgAt w rg x) : w.cell? ⟨rg, 2, none⟩ = some (.int .u64 x.first) := h.cell 2
theorem RgAt.c5 {w : World} {rg : Nat} {x : RgV} (h : RgAt w rg x) : w.cell? ⟨rg, 5, none⟩ = some x.dp := h.cell 5
theorem RgAt.c6 {w : World} {rg : Nat} {x : RgV} (h : RgAt w rg x) : w.cell? ⟨rg, 6, none⟩ = some (.slice x.eq x.el x.ec) := h.cell 6
theorem RgAt.c7 {w : World} {rg : Nat} {x : RgV} (h : RgAt w rg x) : w.cell? ⟨rg, 7, none⟩ = some (.int .i64 x.used) := h.cell 7
theorem RgAt.c8 {w : World} {rg : Nat} {x : RgV} (h : RgAt w rg x) : w.cell? ⟨rg, 8, none⟩ = some (.bool x.br) := h.cell 8

theorem left_any (rg : Nat) (x : RgV) (w : World) (h : RgAt w rg x) (hu : x.used ≤ x.size) (hs : x.size < 100000) :
    Calls Tryz.prog 23 #[.pointer (some ⟨rg, 0, none⟩)] w (fun e w' => e = .returned (.int .i64 (x.size - x.used : Nat)) ∧ Below w.heap.size w w') := by
  have c1 := h.c1
  have c7 := h.c7
  have hw := Go.IntWalk.i64_in ((x.size : Int) - x.used) ⟨by omega, by omega⟩
  go_enter Tryz.func23, Tryz.ntmps23
  go_wp2
  go_region
  go_wp2
  go_ret
  exact ⟨congrArg (fun z : Int => Ending.returned (.int .i64 z)) (by omega), by go_grown⟩

theorem first_any (rg : Nat) (x : RgV) (w : World) (h : RgAt w rg x) :
    Calls Tryz.prog 20 #[.pointer (some ⟨rg, 0, none⟩)] w (fun e w' => e = .returned (.int .u64 x.first) ∧ Below w.heap.size w w') := by
  have c2 := h.c2
  go_enter Tryz.func20, Tryz.ntmps20
  go_wp2
  go_ret
  exact ⟨rfl, by go_grown⟩

theorem nextNum_any (rg : Nat) (x : RgV) (w : World) (h : RgAt w rg x) (h1 : x.first < 1099511627776) (h2 : x.el < 1099511627776) :
    Calls Tryz.prog 56 #[.pointer (some ⟨rg, 0, none⟩)] w (fun e w' => e = .returned (.int .u64 (x.first + x.el : Nat)) ∧ Below w.heap.size w w') := by
  have c2 := h.c2
  have c6 := h.c6
  have e1 : IntKind.u64.wrap (x.el : Int) = x.el := by rw [IntKind.wrap_u64]; omega
  have e2 : IntKind.u64.wrap ((x.first : Int) + x.el) = ((x.first + x.el : Nat) : Int) := by rw [IntKind.wrap_u64]; omega
  go_enter Tryz.func56, Tryz.ntmps56
  go_wp2
  go_region
  go_wp2
  go_ret
  exact ⟨congrArg (fun z : Int => Ending.returned (.int .u64 z)) (by omega), by go_grown⟩

end Go.Proofs.YtjhnagipagkhiaaGreat
