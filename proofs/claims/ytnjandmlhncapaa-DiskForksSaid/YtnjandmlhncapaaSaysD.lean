/- says of DiskForks: the program's disk tells what the document's does. -/
import Derived.Test.YtnjandmlhncapaaWantW
namespace Go.Proofs.Ytnjandmlhncapaa
open Go.RowKit

set_option maxRecDepth 100000 in
set_option maxHeartbeats 4000000 in
theorem saysD_any (p : Pl) (d : Dk) (w : World) (k : At w p d) {q : Option Addr} {c : Nat} {S : List Sc} {ops ar fl : Int} {dead : Bool} (hd : Doc w q c S d ops ar fl dead) :
    Calls Try.prog 16 #[ptr p, .agg #[.slice q S.length c, .int .i64 ops, .int .i64 ar, .int .i64 fl, .bool dead]] w (fun e w' => e = .returned (.bool true) ∧ Below w.heap.size w w') := by
  obtain rfl := hd.tw.ops
  obtain rfl := hd.tw.dead
  have hsec := hd.tw.secs
  have hw1 : Below w.heap.size w (w.alloc (.cells #[.slice q S.length c, .int .i64 d.ops, .int .i64 ar, .int .i64 fl, .bool d.dead] 31)) := (Below.refl _ _).alloc (Nat.le_refl _) _
  have k1 := Lib.hid (k.below hw1)
  have d1 := Lib.hid (hd.below hw1)
  have r1 : Hid (RowV 31 (w.alloc (.cells #[.slice q S.length c, .int .i64 d.ops, .int .i64 ar, .int .i64 fl, .bool d.dead] 31)) w.heap.size [.slice q S.length c, .int .i64 d.ops, .int .i64 ar, .int .i64 fl, .bool d.dead]) := RowV.made w _
  have hb1 := Lib.hid hw1
  have hsec' := Lib.hid hsec
  clear hd k hsec hw1
  go_enter Try.func16, Try.ntmps16
  go_wp2_with fail
  obtain ⟨w2, hw2⟩ : ∃ w2, w.alloc (.cells #[.slice q S.length c, .int .i64 d.ops, .int .i64 ar, .int .i64 fl, .bool d.dead] 31) = w2 := ⟨_, rfl⟩
  rw [hw2] at k1 d1 r1 hb1 ⊢
  clear hw2
  refine wp_region_held (S := fun W => RowV 31 W w.heap.size [.slice q S.length c, .int .i64 d.ops, .int .i64 ar, .int .i64 fl, .bool d.dead]) (by kernel_rfl) ?_
  change wpAnyH _ _ _ _ _ _ _ _ (World.drew w2)
  have hbd := below_drewN (B := w2.heap.size) w2 1
  have hS : RowV 31 w2.drew w.heap.size [.slice q S.length c, .int .i64 d.ops, .int .i64 ar, .int .i64 fl, .bool d.dead] := r1.out.below hbd
  have hA2 := k1.out.below hbd
  have hdoc := d1.out.below hbd
  have hb2 : Below w.heap.size w w2.drew := hb1.out.trans (hbd.mono hb1.out.size)
  have hsec := hsec'.out
  have hln := len_any p d w2.drew hA2
  rw [← hsec.1] at hln
  have hop := ops_any p d w2.drew hA2
  have hde := dead_any p d w2.drew hA2
  have hpe := pending_any p d w2.drew hA2
  clear hsec' k1 d1 r1
  refine held_take (i := 0) (dst := some 5) rfl rfl (by kernel_rfl) (by kernel_rfl) (by kernel_rfl) (fun _ _ _ h => h) (y_move (.tmp 0) rfl rfl rfl) hS ?_
  go_frame
  refine held_take (i := 2) (dst := some 7) (v := .pointer (some ⟨w.heap.size, 0, none⟩)) rfl rfl (by kernel_rfl) (by kernel_rfl) (by kernel_rfl) (fun _ _ _ h => h) (.inl ⟨rfl, fun W _ => by go_simp⟩) hS ?_
  go_frame
  refine held_take (i := 3) (dst := some 8) (v := .slice q S.length c) rfl rfl (by kernel_rfl) (by kernel_rfl) (by kernel_rfl) (fun _ _ _ h => h) (.inl ⟨rfl, fun W hW => by have c1 : W.cell? ⟨w.heap.size, 0, none⟩ = some (.slice q S.length c) := hW.cell 0; go_simp⟩) hS ?_
  go_frame
  refine held_take (i := 4) (dst := some 9) (v := .int .i64 S.length) rfl rfl (by kernel_rfl) (by kernel_rfl) (by kernel_rfl) (fun _ _ _ h => h) (.inl ⟨rfl, fun W _ => by go_simp⟩) hS ?_
  go_frame
  refine held_call (i := 1) (dst := some 6) rfl rfl (by kernel_rfl) rfl (by go_simp) hln ?_
  rintro e w' ⟨rfl, rfl⟩
  refine ⟨_, rfl, hS, ?_⟩
  go_frame
  refine held_take (i := 5) (dst := some 10) (v := .bool true) rfl rfl (by kernel_rfl) (by kernel_rfl) (by kernel_rfl) (fun _ _ _ h => h) (.inl ⟨rfl, fun W _ => by go_simp⟩) hS ?_
  go_frame
  refine held_take (i := 6) (dst := some 11) rfl rfl (by kernel_rfl) (by kernel_rfl) (by kernel_rfl) (fun _ _ _ h => h) (y_move (.tmp 10) rfl rfl rfl) hS ?_
  go_frame
  refine held_take (i := 7) (dst := some 12) rfl rfl (by kernel_rfl) (by kernel_rfl) (by kernel_rfl) (fun _ _ _ h => h) (y_move (.tmp 0) rfl rfl rfl) hS ?_
  go_frame
  refine held_take (i := 9) (dst := some 14) (v := .pointer (some ⟨w.heap.size, 1, none⟩)) rfl rfl (by kernel_rfl) (by kernel_rfl) (by kernel_rfl) (fun _ _ _ h => h) (.inl ⟨rfl, fun W _ => by go_simp⟩) hS ?_
  go_frame
  refine held_take (i := 10) (dst := some 15) (v := .int .i64 d.ops) rfl rfl (by kernel_rfl) (by kernel_rfl) (by kernel_rfl) (fun _ _ _ h => h) (.inl ⟨rfl, fun W hW => by have c1 : W.cell? ⟨w.heap.size, 1, none⟩ = some (.int .i64 d.ops) := hW.cell 1; go_simp⟩) hS ?_
  go_frame
  refine held_call (i := 8) (dst := some 13) rfl rfl (by kernel_rfl) rfl (by go_simp) hop ?_
  rintro e w' ⟨rfl, rfl⟩
  refine ⟨_, rfl, hS, ?_⟩
  go_frame
  refine held_take (i := 11) (dst := some 16) (v := .bool true) rfl rfl (by kernel_rfl) (by kernel_rfl) (by kernel_rfl) (fun _ _ _ h => h) (.inl ⟨rfl, fun W _ => by go_simp⟩) hS ?_
  go_frame
  refine held_take (i := 12) (dst := some 17) (v := .bool true) rfl rfl (by kernel_rfl) (by kernel_rfl) (by kernel_rfl) (fun _ _ _ h => h) (.inl ⟨rfl, fun W _ => by go_simp⟩) hS ?_
  go_frame
  refine held_take (i := 13) (dst := some 18) rfl rfl (by kernel_rfl) (by kernel_rfl) (by kernel_rfl) (fun _ _ _ h => h) (y_move (.tmp 17) rfl rfl rfl) hS ?_
  go_frame
  refine held_take (i := 14) (dst := some 19) rfl rfl (by kernel_rfl) (by kernel_rfl) (by kernel_rfl) (fun _ _ _ h => h) (y_move (.tmp 0) rfl rfl rfl) hS ?_
  go_frame
  refine held_take (i := 16) (dst := some 21) (v := .pointer (some ⟨w.heap.size, 4, none⟩)) rfl rfl (by kernel_rfl) (by kernel_rfl) (by kernel_rfl) (fun _ _ _ h => h) (.inl ⟨rfl, fun W _ => by go_simp⟩) hS ?_
  go_frame
  refine held_take (i := 17) (dst := some 22) (v := .bool d.dead) rfl rfl (by kernel_rfl) (by kernel_rfl) (by kernel_rfl) (fun _ _ _ h => h) (.inl ⟨rfl, fun W hW => by have c1 : W.cell? ⟨w.heap.size, 4, none⟩ = some (.bool d.dead) := hW.cell 4; go_simp⟩) hS ?_
  go_frame
  refine held_call (i := 15) (dst := some 20) rfl rfl (by kernel_rfl) rfl (by go_simp) hde ?_
  rintro e w' ⟨rfl, rfl⟩
  refine ⟨_, rfl, hS, ?_⟩
  go_frame
  refine held_take (i := 18) (dst := some 23) (v := .bool true) rfl rfl (by kernel_rfl) (by kernel_rfl) (by kernel_rfl) (fun _ _ _ h => h) (.inl ⟨rfl, fun W _ => by go_simp⟩) hS ?_
  go_frame
  refine held_take (i := 19) (dst := some 24) (v := .bool true) rfl rfl (by kernel_rfl) (by kernel_rfl) (by kernel_rfl) (fun _ _ _ h => h) (.inl ⟨rfl, fun W _ => by go_simp⟩) hS ?_
  go_frame
  refine held_take (i := 20) (dst := some 25) rfl rfl (by kernel_rfl) (by kernel_rfl) (by kernel_rfl) (fun _ _ _ h => h) (y_move (.tmp 24) rfl rfl rfl) hS ?_
  go_frame
  refine held_take (i := 21) (dst := some 26) rfl rfl (by kernel_rfl) (by kernel_rfl) (by kernel_rfl) (fun _ _ _ h => h) (y_move (.tmp 0) rfl rfl rfl) hS ?_
  go_frame
  refine held_take (i := 23) (dst := some 28) (v := .agg #[.slice q S.length c, .int .i64 d.ops, .int .i64 ar, .int .i64 fl, .bool d.dead]) rfl rfl (by kernel_rfl) (by kernel_rfl) (by kernel_rfl) (fun _ _ _ h => h) (y_load_agg 31 (.tmp 3) rfl rfl rfl (fun W hW => load_d5 hW)) hS ?_
  go_frame
  refine held_call (i := 22) (dst := some 27) rfl rfl (by kernel_rfl) rfl (by go_simp) hpe ?_
  rintro e w5 ⟨vp, rfl, hA, hown, hb5⟩
  have hS5 := hS.below hb5
  refine ⟨_, rfl, hS5, ?_⟩
  go_frame
  have d5 := hdoc.below hb5
  refine held_call (i := 24) (dst := some 29) rfl rfl (by kernel_rfl) rfl (by go_simp) (rpending_any q c d.ops ar fl d.dead S w5 d5.holds (hsec.ok hA.good) (hsec.n hA.good)) ?_
  rintro e w6 ⟨q6, m6, c6, rfl, hown6, hb6⟩
  have hS6 := hS5.below hb6
  refine ⟨_, rfl, hS6, ?_⟩
  go_frame
  have hr1 : ReadI w6 vp d.pend := by
    have h := owns_readI hown
    obtain ⟨q', c', rfl, h0, h1⟩ := h
    exact ⟨q', c', rfl, h0, fun a ha => ⟨(h1 a ha).1, fun j x hx => cell_keeps hb6 (Nat.le_refl _) ((h1 a ha).2 j x hx)⟩⟩
  have hr2 : ReadI w6 (.slice q6 m6 c6) d.pend := by
    rw [hsec.pend] at hown6
    unfold OwnV at hown6
    rw [List.length_map] at hown6
    exact owns_readI hown6
  have hle : d.pend.length ≤ 2048 := by
    have h1 := d.pend_len
    have h2 := hA.good.n
    omega
  have heq := eqInts_any vp (.slice q6 m6 c6) d.pend d.pend w6 hr1 hr2 hle hle (fun h => h)
  rw [show (d.pend == d.pend) = true by simp] at heq
  refine held_call (i := 25) (dst := some 30) rfl rfl (by kernel_rfl) rfl (by go_simp) heq ?_
  rintro e w7 ⟨rfl, hb7⟩
  have hS7 := hS6.below hb7
  refine ⟨_, rfl, hS7, ?_⟩
  go_frame
  refine held_take (i := 26) (dst := some 31) (v := .bool true) rfl rfl (by kernel_rfl) (by kernel_rfl) (by kernel_rfl) (fun _ _ _ h => h) (.inl ⟨rfl, fun W _ => by go_simp⟩) hS7 ?_
  go_frame
  refine held_take (i := 27) (dst := some 4) rfl rfl (by kernel_rfl) (by kernel_rfl) (by kernel_rfl) (fun _ _ _ h => h) (v := .bool true) (.inl ⟨rfl, fun W _ => by go_simp⟩) hS7 ?_
  go_frame
  refine wpAnyH_done (by kernel_rfl) ?_ _
  go_wp2
  go_returns
  exact ⟨rfl, ((hb2.trans (hb5.mono hb2.size)).trans (hb6.mono (Nat.le_trans hb2.size hb5.size))).trans (hb7.mono (Nat.le_trans hb2.size (Nat.le_trans hb5.size hb6.size)))⟩

end Go.Proofs.Ytnjandmlhncapaa
