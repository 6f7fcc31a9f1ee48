/- What laid tells: the head's sector, and the head's block. -/
import Derived.Test.YtjhnagipagkhiaaGreatRHin
import Derived.Test.YtjhnagipagkhiaaGreatRNou
import Derived.Test.YtjhnagipagkhiaaGreatRFns
namespace Go.Proofs.YtjhnagipagkhiaaGreat
open Go.RowKit Go.Maps Go.Sort Go.Shelf
attribute [local go_sem] Oper.semAt_some

theorem size_head (turn size first place nl nc : Nat) (nq : Option Addr) : (Tryz.prog.info? 94).map (·.size) = some (hdL turn size first place nq nl nc).length := by
  show _ = some [Value.int .u32 turn, .int .i64 size, .int .u64 first, .int .i64 place, .slice nq nl nc].length
  kernel_rfl
theorem load_head {W : World} {g : Nat} {turn size first place nl nc : Nat} {nq : Option Addr} (h : RowV 94 W g (hdL turn size first place nq nl nc)) : (loadVar 94 ⟨g, 0, none⟩).run Tryz.prog W = .ok (.agg (hdL turn size first place nq nl nc).toArray) W :=
  run_loadVar_at Tryz.underlying94 rfl (size_head turn size first place nl nc nq) ⟨g, 0, none⟩ (h.part (o := 0) (pre := []) (rest := []) (by simp) rfl)

set_option maxRecDepth 100000 in
set_option maxHeartbeats 2000000 in
theorem laid_tells (turn size first place : Nat) (nq : Option Addr) (nc : Nat) (note : List UInt8) (hn : note.length ≤ 32) (ht : turn < 4294967296) (w : World) :
    Tells Tryz.prog 49 #[.agg #[.int .u32 turn, .int .i64 size, .int .u64 first, .int .i64 place, .slice nq note.length nc]] #[] (fun W => Lib.HoldsBytes W (.slice nq note.length nc) note)
      [tl ((turn % 2 : Nat), pad (headB turn size first place note))] w := by
  intro l J Jx hJ hJx hR _ h0 hY
  obtain ⟨nl, hnl⟩ : ∃ nl, note.length = nl := ⟨_, rfl⟩
  obtain ⟨w2, hw2⟩ : ∃ w2, w.alloc (.cells (hdL turn size first place nq nl nc).toArray 94) = w2 := ⟨_, rfl⟩
  have hb2 : Below w.heap.size w w2 := by rw [← hw2]; exact (Below.refl _ _).alloc (Nat.le_refl _) _
  have hr2 : RowV 94 w2 w.heap.size (hdL turn size first place nq nl nc) := by rw [← hw2]; exact RowV.made w _
  have hJ2 : J [] w2.drew := hJ [] _ _ h0 hb2.drew
  have hv2 := hR [] _ hJ2
  have hS0 : RowV 94 w2.drew w.heap.size (hdL turn size first place nq nl nc) ∧ Below w.heap.size w w2.drew := ⟨hr2.block rfl, hb2.drew⟩
  have hc33 := headBlock_any turn size first place nq nc note w2.drew hv2 hn ht
  rw [hnl] at hc33 ⊢
  refine callsIn_of_wp Tryz.func49 rfl trivial ?_ rfl
  simp only [Tryz.ntmps49, List.size_toArray, List.length_cons, List.length_nil, Nat.reduceAdd, Nat.reduceSub, Array.replicate_succ, Array.replicate_zero, List.push_toArray, List.append_toArray, List.nil_append, List.cons_append]
  have hY' := Lib.hid hY
  have hJ' := Lib.hid hJ
  have hJx' := Lib.hid hJx
  have h0' := Lib.hid h0
  have hS0' := Lib.hid hS0
  clear hY hR h0 hJ hJx hJ2 hv2 hS0 hr2 hb2
  gi_wp2
  refine wpIn_region_held (by kernel_rfl) (fun W => RowV 94 W w.heap.size (hdL turn size first place nq nl nc)) ?_
  change inH _ _ _ _ _ _ _ _ _ _ (World.drew w2)
  have t7 : (turn : Int).tmod 2 = ((turn % 2 : Nat) : Int) := by rw [Int.tmod_eq_emod_of_nonneg (by omega)]; omega
  refine inH_take (i := 0) (dst := some 4) rfl rfl rfl (by kernel_rfl) (by kernel_rfl) (by kernel_rfl) (fun _ _ _ h => h) ⟨y_move (.tmp 1) rfl rfl rfl, fun _ => rfl⟩ hS0'.out.1 ?_
  go_frame
  refine inH_take (i := 1) (dst := some 5) (v := .pointer (some ⟨w.heap.size, 0, none⟩)) rfl rfl rfl (by kernel_rfl) (by kernel_rfl) (by kernel_rfl) (fun _ _ _ h => h) ⟨.inl ⟨rfl, fun W _ => by go_simp⟩, fun _ => rfl⟩ hS0'.out.1 ?_
  go_frame
  refine inH_take (i := 2) (dst := some 6) (v := .int .u32 turn) rfl rfl rfl (by kernel_rfl) (by kernel_rfl) (by kernel_rfl) (fun _ _ _ h => h) ⟨.inl ⟨rfl, fun W hW => by have c1 : W.cell? ⟨w.heap.size, 0, none⟩ = some (.int .u32 turn) := RowV.cell hW 0; go_simp⟩, fun _ => rfl⟩ hS0'.out.1 ?_
  go_frame
  refine inH_take (i := 3) (dst := some 7) (v := .int .u32 ((turn % 2 : Nat) : Int)) rfl rfl rfl (by kernel_rfl) (by kernel_rfl) (by kernel_rfl) (fun _ _ _ h => h) ⟨.inl ⟨rfl, fun W hW => by go_simp⟩, fun _ => rfl⟩ hS0'.out.1 ?_
  go_frame
  refine inH_take (i := 4) (dst := some 8) (v := .int .i64 ((turn % 2 : Nat) : Int)) rfl rfl rfl (by kernel_rfl) (by kernel_rfl) (by kernel_rfl) (fun _ _ _ h => h) ⟨.inl ⟨rfl, fun W hW => by have hwp := Go.IntWalk.i64_in ((turn : Int) % 2) ⟨by omega, by omega⟩; go_simp⟩, fun _ => rfl⟩ hS0'.out.1 ?_
  go_frame
  refine inH_take (i := 5) (dst := some 9) rfl rfl rfl (by kernel_rfl) (by kernel_rfl) (by kernel_rfl) (fun _ _ _ h => h) ⟨y_load_agg 94 (.tmp 2) rfl rfl rfl (fun W hW => load_head hW), fun _ => rfl⟩ hS0'.out.1 ?_
  go_frame
  refine inH_call (i := 6) (dst := some 10) rfl rfl (fun h => by cases h) (fun _ => trivial) rfl (by kernel_rfl) rfl (by go_simp) (callsIn_wide.2 hc33) ?_
  rintro e w5 ⟨rfl, hb5⟩
  have hb5' : RowKit.Below w.heap.size w w5 := hS0'.out.2.trans (hb5.mono hS0'.out.2.size)
  have hS5 : RowV 94 w5 w.heap.size (hdL turn size first place nq nl nc) := hS0'.out.1.below hb5
  refine ⟨_, rfl, hS5, ?_⟩
  go_frame
  obtain ⟨fn, tmps, asg, bdy, hy, hRd⟩ := yield_n 8 (hY'.out [] _ [] w5 rfl hb5'.size (hJ'.out [] _ _ h0'.out hb5'))
  have hy2 : Sem.run Tryz.prog (Instr.yield l #[.int .i64 ((turn : Int) % 2), agg (pad (headB turn size first place note))]) w5 = .ok (.round l fn tmps asg bdy) w5 := by
    rw [show ((turn : Int) % 2) = ((turn % 2 : Nat) : Int) by omega]
    exact hy
  refine inH_yield (i := 7) (dst := some 11) rfl rfl (fun h => by cases h) (fun _ => trivial) rfl (by kernel_rfl) rfl (by go_simp <;> exact hy2) hRd ?_
  rintro e w6 ⟨hs6, hz6, h6⟩
  have hS6 : RowV 94 w6 w.heap.size (hdL turn size first place nq nl nc) := hS5.block (hs6 _ (Nat.le_refl _) hS5.lt)
  have hlast : J [tl ((turn % 2 : Nat), pad (headB turn size first place note))] w6 ∨ Jx w6 := by
    rcases h6 with ⟨_, h⟩ | ⟨_, h⟩
    · exact .inl h
    · exact .inr h
  obtain ⟨v, rfl⟩ : ∃ v, e = .returned v := by
    rcases h6 with ⟨h, _⟩ | ⟨h, _⟩ <;> exact ⟨_, h⟩
  have hlast' := Lib.hid hlast
  clear hlast h6 hy hy2 hRd
  refine ⟨v, rfl, hS6, inH_done (by kernel_rfl) ?_⟩
  go_frame
  gi_wp2
  go_end0
  exact ⟨⟨_, rfl⟩, hlast'.out⟩

end Go.Proofs.YtjhnagipagkhiaaGreat
