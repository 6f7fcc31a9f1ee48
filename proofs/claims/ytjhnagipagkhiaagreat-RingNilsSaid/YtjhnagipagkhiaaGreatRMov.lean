/- move: the ring goes over to a new head. -/
import Derived.Test.YtjhnagipagkhiaaGreatRSane
namespace Go.Proofs.YtjhnagipagkhiaaGreat
open Go.RowKit

theorem hd_grp {w : World} {p : Pl} {turn size first place : Nat} {nq : Option Addr} {nc : Nat} {note : List UInt8} (hv : Lib.HoldsBytes w (.slice nq note.length nc) note) (hq : ∀ a, nq = some a → a.block < w.heap.size ∧ a.block ∉ p.L) (hn : note.length ≤ 32) (ht : turn < 4294967296) :
    GrpOk w p ⟨49, #[.agg #[.int .u32 turn, .int .i64 size, .int .u64 first, .int .i64 place, .slice nq note.length nc]], #[], [((turn % 2 : Nat), pad (headB turn size first place note))]⟩ := by
  refine ⟨enters_of Tryz.func49 (by kernel_rfl) rfl, ⟨fun W => Lib.HoldsBytes W (.slice nq note.length nc) note, fun W hT => ?_, fun W => laid_tells turn size first place nq nc note hn ht W⟩, fun y hy => ?_, by simp⟩
  · obtain ⟨q2, cap, e2, h1, h2⟩ := hv
    cases e2
    refine ⟨nq, nc, rfl, h1, fun a ha i y hy => ?_⟩
    rw [World.cell?_of_block (w := w) (by rw [add_block]; exact hT.block _ (hq a ha).1 (hq a ha).2)]
    exact h2 a ha i y hy
  · rw [List.mem_singleton.1 hy]
    exact pad_len (by rw [headB_len]; omega)

theorem one_head (turn size first place nl nc : Nat) (nq : Option Addr) : ∀ v ∈ hdL turn size first place nq nl nc, v.oneCell' = true := by
  intro v hv
  simp only [hdL, List.mem_cons, List.not_mem_nil, or_false] at hv
  rcases hv with rfl | rfl | rfl | rfl | rfl <;> rfl
theorem fit_head (turn size first place nl nc : Nat) (nq : Option Addr) (x : RgV) : 0 + (hdL turn size first place nq nl nc).length ≤ x.cells.length := by
  show 0 + 5 ≤ 9
  omega
theorem splice_head (turn size first place nl nc : Nat) (nq : Option Addr) (x : RgV) : splice x.cells 0 (hdL turn size first place nq nl nc) = { x with turn := turn, size := size, first := first, place := place, nq := nq, nl := nl, nc := nc }.cells := rfl

set_option maxRecDepth 100000 in
set_option maxHeartbeats 1000000 in
theorem move_ok (rg : Nat) (p : Pl) (d d' : Dk) (x : RgV) (vs : List Value) (es : List (List UInt8)) (note0 note : List UInt8) (turn size first place : Nat) (nq : Option Addr) (nc : Nat) (w : World) (h : RgOn w rg p d x vs es note0) (hn : note.length ≤ 32) (ht : turn + 1 < 4294967296) (he : Ent (rg + 1) w (.slice nq note.length nc) note)
    (hap : ∀ a, x.eq = some a → ∀ b, nq = some b → b.block ≠ a.block) (h0 : 0 ≤ d.ops) (h1 : d.ops < 1152921504606846976) (hlay : layAll d [[(((turn + 1) % 2 : Nat), pad (headB (turn + 1) size first place note))]] = (0, d')) :
    Calls Tryz.prog 55 #[.pointer (some ⟨rg, 0, none⟩), .agg #[.int .u32 turn, .int .i64 size, .int .u64 first, .int .i64 place, .slice nq note.length nc]] w (fun e' w' => e' = .returned (.int .i64 0) ∧
      RgOn w' rg p d' { x with turn := turn + 1, size := size, first := first, place := place, nq := nq, nl := note.length, nc := nc } vs es note ∧ Up rg p.L w w') := by
  obtain ⟨nl, hnl⟩ : ∃ nl, note.length = nl := ⟨_, rfl⟩
  obtain ⟨w1, hw1⟩ : ∃ w1, w.alloc (.cells (hdL turn size first place nq nl nc).toArray 94) = w1 := ⟨_, rfl⟩
  have hb1 : Below w.heap.size w w1 := by rw [← hw1]; exact (Below.refl _ _).alloc (Nat.le_refl _) _
  have hr1 : RowV 94 w1 w.heap.size (hdL turn size first place nq nl nc) := by rw [← hw1]; exact RowV.made w _
  have ca : w1.cell? ⟨w.heap.size, 0, none⟩ = some (.int .u32 turn) := hr1.cell 0
  have fa := hr1.free 0
  have ht1 : IntKind.u32.wrap ((turn : Int) + 1) = (turn : Int) + 1 := by rw [IntKind.wrap_u32]; omega
  have hh := Lib.hid h
  have hee := Lib.hid he
  have hap' := Lib.hid hap
  have hlay' := Lib.hid hlay
  have hr1' := Lib.hid hr1
  have hb1' := Lib.hid hb1
  clear h he hap hlay hr1 hb1
  rw [hnl]
  go_enter Tryz.func55, Tryz.ntmps55
  go_wp2
  obtain ⟨w2, hw2⟩ : ∃ w2, w1.setCell ⟨w.heap.size, 0, none⟩ (.int .u32 ((turn : Int) + 1)) = w2 := ⟨_, rfl⟩
  have e1 : ((turn + 1 : Nat) : Int) = (turn : Int) + 1 := by omega
  have hr2 : RowV 94 w2 w.heap.size (hdL (turn + 1) size first place nq nl nc) := by rw [← hw2, ← e1]; exact hr1'.out.set 0 _
  have hg2 : w1.grownBy w2 (some w.heap.size) := by rw [← hw2]; exact setCell_grown w1 w.heap.size 0 _
  have hb2 : Below w.heap.size w w2 := hb1'.out.grown hg2 hb1'.out.size (fun k e => by cases e; exact Nat.le_refl _)
  rw [hw2]
  have hh2 := hh.out.below hb2
  have hb3 : Below w.heap.size w w2.drew := hb2.drew
  have hh3 := hh2.below ((Below.refl w2.heap.size w2).drew)
  refine wp_region_held (S := fun W => W.cell? ⟨rg, 5, none⟩ = some (ptr p) ∧ RowV 94 W w.heap.size (hdL (turn + 1) size first place nq nl nc)) (by kernel_rfl) ?_
  change wpAnyH _ _ _ _ _ _ _ _ (World.drew w2)
  have hS : w2.drew.cell? ⟨rg, 5, none⟩ = some (ptr p) ∧ RowV 94 w2.drew w.heap.size (hdL (turn + 1) size first place nq nl nc) := ⟨by rw [← hh3.dp]; exact hh3.here.c5, hr2.block rfl⟩
  refine held_take (i := 0) (dst := some 10) (v := .pointer (some ⟨rg, 0, none⟩)) rfl rfl (by kernel_rfl) (by kernel_rfl) (by kernel_rfl) (fun _ _ _ h => h) (y_move (.tmp 0) rfl rfl rfl) hS ?_
  go_frame
  refine held_take (i := 1) (dst := some 11) (v := .pointer (some ⟨rg, 0, none⟩)) rfl rfl (by kernel_rfl) (by kernel_rfl) (by kernel_rfl) (fun _ _ _ h => h) (.inl ⟨rfl, fun W hW => by go_simp⟩) hS ?_
  go_frame
  refine held_take (i := 2) (dst := some 12) (v := .pointer (some ⟨rg, 5, none⟩)) rfl rfl (by kernel_rfl) (by kernel_rfl) (by kernel_rfl) (fun _ _ _ h => h) (.inl ⟨rfl, fun W hW => by go_simp⟩) hS ?_
  go_frame
  refine held_take (i := 3) (dst := some 13) (v := ptr p) rfl rfl (by kernel_rfl) (by kernel_rfl) (by kernel_rfl) (fun _ _ _ h => h) (.inl ⟨rfl, fun W hW => by have c1 : W.cell? ⟨rg, 5, none⟩ = some (ptr p) := hW.1; go_simp⟩) hS ?_
  go_frame
  refine held_take (i := 4) (dst := some 14) rfl rfl (by kernel_rfl) (by kernel_rfl) (by kernel_rfl) (fun _ _ _ h => h) (y_load_agg 94 (.tmp 3) rfl rfl rfl (fun W hW => load_head hW.2)) hS ?_
  go_frame
  obtain ⟨fv, hfv⟩ : ∃ fv : Value, fv = .func (.func 49) #[.agg (hdL (turn + 1) size first place nq nl nc).toArray] #[] := ⟨_, rfl⟩
  refine held_take (i := 5) (dst := some 15) (v := fv) rfl rfl (by kernel_rfl) (by kernel_rfl) (by kernel_rfl) (fun _ _ _ h => h) (.inl ⟨rfl, fun W hW => by rw [hfv]; go_simp⟩) hS ?_
  go_frame
  obtain ⟨w5, hw5⟩ : ∃ w5, w2.drew.alloc (.cells #[fv] 99) = w5 := ⟨_, rfl⟩
  have hb5 : Below w2.drew.heap.size w2.drew w5 := by rw [← hw5]; exact (Below.refl _ _).alloc (Nat.le_refl _) _
  have hr5 : RowV 99 w5 w2.drew.heap.size [fv] := by rw [← hw5]; exact RowV.made w2.drew _
  have hh5 := hh3.below hb5
  have hS5 : w5.cell? ⟨rg, 5, none⟩ = some (ptr p) ∧ RowV 94 w5 w.heap.size (hdL (turn + 1) size first place nq nl nc) := ⟨by rw [← hh5.dp]; exact hh5.here.c5, hS.2.below hb5⟩
  refine held_value (i := 6) (dst := some 16) (v := .slice (some ⟨w2.drew.heap.size, 0, none⟩) 1 1) (w' := w5) rfl rfl (by kernel_rfl) rfl (by rw [← hw5]; go_simp) hS5 ?_
  go_frame
  have hbw5 : Below w.heap.size w w5 := hb3.trans (hb5.mono hb3.size)
  have he5 : Ent (rg + 1) w5 (.slice nq nl nc) note := by
    have h := hee.out
    rw [hnl] at h
    exact h.keep hbw5.size (fun a _ _ _ _ h => hbw5.block _ h)
  have hqs : ∀ a, nq = some a → a.block < w5.heap.size ∧ a.block ∉ p.L := fun a ha => by
    obtain ⟨q3, n3, c3, e3, hl3⟩ := he5.lies
    cases e3
    exact ⟨(hl3 a ha).2.1, hh5.far (by have := (hl3 a ha).1; omega)⟩
  have hgo := hd_grp (size := size) (first := first) (place := place) (by rw [hnl]; exact he5.holds) hqs hn ht
  have hlc := lay_any p d w5 hh5.disk [⟨49, #[.agg #[.int .u32 ((turn + 1 : Nat) : Int), .int .i64 size, .int .u64 first, .int .i64 place, .slice nq note.length nc]], #[], [(((turn + 1) % 2 : Nat), pad (headB (turn + 1) size first place note))]⟩] (some ⟨w2.drew.heap.size, 0, none⟩) 1
    (fun i g hg => by
      rcases i with _ | i
      · simp only [List.getElem?_cons_zero, Option.some.injEq] at hg
        subst hg
        exact ⟨_, rfl, hh3.far (Nat.le_of_lt hh3.size), by rw [Addr.add, if_pos rfl, hr5.cell 0, hfv]; unfold Grp.val; rw [hnl]; rfl⟩
      · simp at hg) (fun g hg => by rw [List.mem_singleton.1 hg]; exact hgo) (by simp) h0 h1
  simp only [List.map_cons, List.map_nil, List.length_cons, List.length_nil] at hlc
  rw [hlay'.out] at hlc
  refine held_call (i := 7) (dst := some 17) rfl rfl (by kernel_rfl) rfl (by go_simp) hlc ?_
  rintro e' w6 ⟨rfl, hA6, hT6⟩
  have hh6 := hh5.tch hA6 hT6
  have hwl : w.heap.size ∉ p.L := hh6.far (Nat.le_of_lt hh.out.size)
  have hS6 : w6.cell? ⟨rg, 5, none⟩ = some (ptr p) ∧ RowV 94 w6 w.heap.size (hdL (turn + 1) size first place nq nl nc) := ⟨by rw [← hh6.dp]; exact hh6.here.c5, hS5.2.tch hT6 hwl⟩
  refine ⟨_, rfl, hS6, ?_⟩
  go_frame
  refine held_take (i := 8) (dst := some 5) (v := .int .i64 0) rfl rfl (by kernel_rfl) (by kernel_rfl) (by kernel_rfl) (fun _ _ _ h => h) (.inl ⟨rfl, fun W hW => by go_simp⟩) hS6 ?_
  go_frame
  refine wpAnyH_done (by kernel_rfl) ?_ _
  have he6 : Ent (rg + 1) w6 (.slice nq nl nc) note := he5.keep hT6.size (fun a _ _ ha _ h => hT6.block _ h (hqs a (Value.slice.inj ha).1).2)
  have hu6 : Up rg p.L w w6 := (Up.of_below p.L hbw5 (by have := hh.out.size; omega)).trans (Up.of_tch hT6 (by have := hh5.size; omega))
  have hh6' := Lib.hid hh6
  have hu6' := Lib.hid hu6
  have he6' := Lib.hid he6
  have hr6 := Lib.hid hS6.2
  have hgr : Hid (RgAt w6 rg x) := hh6.here
  clear hlc hgo hqs hh5 hh3 hS5 hS hr5 hT6 hA6 hb5 hbw5 hb3 hu6 hh6 hfv he5 he6 hS6 hr2 hg2 hb2 hh2 hwl hr1' hb1' ca fa hw1 hw2 hw5 hlay' hee ht1 e1
  go_wp2_with (first
    | (with_reducible refine wpList_load_at rfl 94 (.tmp 3) rfl Tryz.underlying94 rfl (vs := hdL (turn + 1) size first place nq nl nc) (size_head (turn + 1) size first place nl nc nq) rfl (hr6.out.part (o := 0) (pre := []) (rest := []) (by simp) rfl) ?_)
    | ((with_reducible refine wpList_store_at rfl 94 (.tmp 27) (.tmp 25) rfl (o := 0) rfl rfl hgr.out (size_head (turn + 1) size first place nl nc nq) (fit_head _ _ _ _ _ _ _ x) (one_head _ _ _ _ _ _ _) ?_)
       intro w7 hr7 hg7
       rw [splice_head] at hr7
       have hr8 := Lib.hid hr7
       have hg8 := Lib.hid hg7
       clear hr7 hg7))
  go_ret
  have hsz := hh6'.out.size
  refine ⟨rfl, hh6'.out.turn hg8.out hr8.out rfl ⟨rfl, rfl, rfl⟩ he6'.out hap'.out, hu6'.out.trans (Up.grown p.L hg8.out (by omega) (fun k e => by cases e; exact Nat.le_refl _))⟩

end Go.Proofs.YtjhnagipagkhiaaGreat
