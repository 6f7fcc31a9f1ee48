/- Parts of the proof: The document's record: the bytes of a step; The writer of record: kinds, laid; The document's record: bytes laid one behind the other; two pieces that are made in either order -/
import Derived.Test.YtocekhckmpkbmaaGreatU17
import Derived.Test.YtocekhckmpkbmaaGreatU16
import Derived.Test.YtocekhckmpkbmaaGreatU20
import Derived.Test.YtocekhckmpkbmaaGreatU01
import Derived.Test.YtocekhckmpkbmaaGreatU05
namespace Go.Proofs.YtocekhckmpkbmaaGreat
open Go.RowKit
theorem be1 {z : Int} (h0 : 0 ≤ z) (h1 : z < 256) : be 1 (u64 z) = [UInt8.ofNat z.toNat] := by
 have e : u64 z = z.toNat := by unfold u64; rw [Int.emod_eq_of_lt h0 (by omega)]
 rw [e]; simp [be]
set_option maxRecDepth 100000 in
set_option maxHeartbeats 8000000 in
theorem stepped_doc (kd t id v by_ : Int) (s : ByteArray) (w : World) (hok : RowOk ⟨⟨t, id⟩, v, s⟩) (hgood : stpB ⟨kd, ⟨⟨t, id⟩, v, s⟩, by_⟩ = true) :
 Calls Tryz.prog 44 #[.agg #[.int .i64 kd, .int .i64 t, .int .u16 id, .int .i64 v, .string s, .int .i64 by_]] w (fun e w' => ∃ X, e = .returned X ∧ PcM (encStep ⟨kd, ⟨⟨t, id⟩, v, s⟩, by_⟩) w X w') := by
 obtain ⟨hck, hkd⟩ := stp_kind hgood; have h8 : s.size ≤ 8 := chk_note hck; have htab := okRow_iff.2 hck; unfold okRow tabB at htab; simp only [Bool.and_eq_true, decide_eq_true_eq] at htab; have t0 : 0 ≤ t := htab.1.1; have t3 : t < 3 := htab.1.2; have i0 : 0 ≤ id := hok.key.id.1; have i1 : id < 65536 := hok.key.id.2; have k0 : 0 ≤ kd := by simp at hkd; omega
 have k5 : kd < 5 := by simp at hkd; omega
 clear htab hck hgood hok; obtain ⟨W, hW⟩ : ∃ W, w.alloc (.cells #[.int .i64 kd, .int .i64 t, .int .u16 id, .int .i64 v, .string s, .int .i64 by_] 70) = W := ⟨_, rfl⟩; have hbx := lh (one_box hW); have hbv : Hid (RowV 70 W w.heap.size [.int .i64 kd, .int .i64 t, .int .u16 id, .int .i64 v, .string s, .int .i64 by_]) := by show RowV _ _ _ _; rw [← hW]; exact RowV.made w _
 obtain ⟨W2, hW2⟩ : ∃ W2, W.alloc (.cells #[.int .u8 kd] 5) = W2 := ⟨_, rfl⟩; have hb2 := lh (one_box hW2); have hm2 : Hid (Row 5 W2 W.heap.size [UInt8.ofNat kd.toNat]) := by have h := made1 W (UInt8.ofNat kd.toNat); rw [ofNat_int k0 (by omega), hW2] at h; exact h
 have hown2 : Hid (Own W2 W.heap.size (.slice (some ⟨W.heap.size, 0, none⟩) 1 1) [UInt8.ofNat kd.toNat]) := hm2.out.own (Nat.le_refl _) (by show 1 ≤ maxLen; unfold maxLen; decide); have hS2 : Hid (BoxS 70 W w.heap.size [.int .i64 kd, .int .i64 t, .int .u16 id, .int .i64 v, .string s, .int .i64 by_] W2) := ⟨hb2.out.1, hbv.out.below hb2.out.1⟩; have hwk : IntKind.u8.wrap kd = kd := by show kd % 256 = kd; omega
 have hwt : IntKind.u8.wrap t = t := by show t % 256 = t; omega
 have d0 := hbv.out.cell 0; have e0 := hS2.out.2.cell 0; have hsr := sizeRow t id v s; have hrw : Hid (∀ j x, ([.int .i64 t, .int .u16 id, .int .i64 v, .string s] : List Value)[j]? = some x → W2.cell? ((⟨w.heap.size, 1, none⟩ : Addr).add j) = some x) := hS2.out.2.part (pre := [.int .i64 kd]) (rest := [.int .i64 by_]) rfl rfl; have hrd := lh (row_doc t id v s W2 t0 t3 i0 i1 h8); have hu := u64_wrap id; have hub := u64_wrap by_; have hbd := lh (be1 k0 (by omega : kd < 256)); have hbt := lh (be1 t0 (by omega : t < 256))
 by_cases h14 : kd = 2 ∨ kd = 3
 · have he : Hid (encStep ⟨kd, ⟨⟨t, id⟩, v, s⟩, by_⟩ = [UInt8.ofNat kd.toNat] ++ encRow ⟨⟨t, id⟩, v, s⟩) := by
    show _ = _; unfold encStep; rw [hbd.out]; rcases h14 with rfl | rfl <;> rfl
   have hrl : Hid ((encRow ⟨⟨t, id⟩, v, s⟩).length = 12 + s.size) := by show _ = _; unfold encRow; rw [List.length_append, List.length_append, List.length_append, encKey_len, length_be, List.length_singleton, Array.length_toList, ByteArray.size_data]
   have hsz := lh (Nat.le_trans hS2.out.1.size (Nat.le_refl _)); clear hbd hbt hu hub hkd; rcases h14 with rfl | rfl <;>
   · go_enter Tryz.func44, Tryz.ntmps44
     go_wp2_with (first
      | (with_reducible refine wpList_load_at rfl 68 (.tmp 17) rfl Tryz.underlying68 rfl hsr rfl hrw.out ?_))
     clear hW hW2; refine hrd.out.mono ?_; rintro e w3 ⟨q3, c3, rfl, ho3, hb3⟩; have hown3 := lh (hown2.out.below hb3); have hS3 := lh (below_step hb3 hS2.out.1); have hho := lh ho3.holds.1; have hsz3 := lh hS3.out.size; clear ho3 hb3
     go_wp2_with (first
      | (at_builtin
         refine wpList_append_bytes rfl (.tmp 16) (.tmp 19) rfl rfl rfl hown3.out hho.out (by omega) hsz3.out ?_; intro q4 c4 w4 h4 hg4; have ho4 := lh h4; have hd4 := lh (hown3.out.up hg4 hS3.out (Nat.le_refl _))
         clear h4 hg4))
     go_ret; have hl := congrArg List.length he.out; rw [List.length_append, hrl.out] at hl; exact ⟨.slice q4 (1 + (12 + s.size)) c4, rfl, q4, c4, by rw [hl]; rfl, by rw [hl, he.out]; exact ho4.out.mono hbx.out.1.size, hbx.out.1.trans (hd4.out.mono hbx.out.1.size)⟩
 · have n2 : ¬ kd = 2 := fun e => h14 (.inl e)
   have n3 : ¬ kd = 3 := fun e => h14 (.inr e)
   have m2 : decide (kd = 2) = false := decide_eq_false n2; have m3 : decide (kd = 3) = false := decide_eq_false n3; have m2' : (kd == 2) = false := by simpa using n2
   have m3' : (kd == 3) = false := by simpa using n3
   clear hrd hsr hrw
   go_enter Tryz.func44, Tryz.ntmps44
   go_wp2; refine wp_region_held (S := BoxS 70 W w.heap.size [.int .i64 kd, .int .i64 t, .int .u16 id, .int .i64 v, .string s, .int .i64 by_]) (by kernel_rfl) ?_
   try rw [hW2]
   change wpAnyH _ _ _ _ _ _ _ _ (World.drew W2); have hS0 : BoxS 70 W w.heap.size [.int .i64 kd, .int .i64 t, .int .u16 id, .int .i64 v, .string s, .int .i64 by_] W2.drew := ⟨below_step (below_drew W2) hS2.out.1, hS2.out.2.below (below_drew W2)⟩; have hown0 := hown2.out.below (below_drew W2); refine tg 0 21 (.slice (some ⟨W.heap.size, 0, none⟩) 1 1) hS0 ?_; go_frame; refine tg 1 22 (.pointer (some ⟨w.heap.size, 1, none⟩)) hS0 ?_; go_frame; refine tg 2 23 (.pointer (some ⟨w.heap.size, 1, none⟩)) hS0 ?_; go_frame; refine tg 3 24 (.pointer (some ⟨w.heap.size, 1, none⟩)) hS0 ?_; go_frame; refine held_tk (i := 4) (dst := some 25) (v := .int .i64 t) rfl rfl (.inl ⟨rfl, fun u hu => by have c9 : u.cell? ⟨w.heap.size, 1, none⟩ = some (.int .i64 t) := hu.2.cell 1; go_simp⟩) hS0 ?_; go_frame; refine tg 5 26 (.int .u8 t) hS0 ?_; go_frame; refine tg 8 29 (.pointer (some ⟨w.heap.size, 1, none⟩)) hS0 ?_; go_frame
   refine tg 9 30 (.pointer (some ⟨w.heap.size, 1, none⟩)) hS0 ?_; go_frame; refine tg 10 31 (.pointer (some ⟨w.heap.size, 2, none⟩)) hS0 ?_; go_frame; refine held_tk (i := 11) (dst := some 32) (v := .int .u16 id) rfl rfl (.inl ⟨rfl, fun u hu => by have c9 : u.cell? ⟨w.heap.size, 2, none⟩ = some (.int .u16 id) := hu.2.cell 2; go_simp⟩) hS0 ?_; go_frame; refine tg 12 33 (.int .u64 (u64 id : Int)) hS0 ?_; go_frame
   refine chain0 (fuel := 1) (keepS_box (by decide) W w.heap.size [.int .i64 kd, .int .i64 t, .int .u16 id, .int .i64 v, .string s, .int .i64 by_]) [(26, .int .u8 t), (33, .int .u64 (u64 id : Int))] [⟨6, 27, 7, 28, [UInt8.ofNat t.toNat]⟩, ⟨13, 34, 14, 35, be 2 (u64 id)⟩] 21 (L := [UInt8.ofNat kd.toNat]) ?fin hS0 hown0 (by simp [lenM, length_be])
    ⟨⟨_, rfl, rfl, fun _ => rfl, fun a u he hS => mk_lit rfl he.1 t0 (by omega)⟩, ⟨_, rfl, rfl, fun _ => rfl, rfl⟩, ⟨_, rfl, rfl, fun _ => rfl, fun a u he hS => mk_call rfl he.2.1 rfl (by decide)⟩, ⟨_, rfl, rfl, fun _ => rfl, rfl⟩, trivial⟩
    rfl ⟨rfl, rfl, trivial⟩ (by kernel_rfl)
   intro x1 y1 x2 y2 u q c hS hy ho; subst hy
   dsimp only
   obtain ⟨L2, hL2⟩ : ∃ l, [UInt8.ofNat kd.toNat] ++ [UInt8.ofNat t.toNat] ++ be 2 (u64 id) = l := ⟨_, rfl⟩; rw [hL2] at ho; rw [hL2]; have hlen : Hid (L2.length = 4) := by show _ = _; rw [← hL2]; simp [length_be]
   have hL2 := lh hL2; have hS' := lh hS; have ho' := lh ho; have f0 := hS.2.cell 0; have f5 := hS.2.cell 5; clear hS0 hS2 hown0 hown2 hm2 hb2 hW hW2 e0 d0; refine tg 15 3 (.slice q L2.length c) hS ?_; go_frame; refine wpAnyH_done (by kernel_rfl) ?_ _; clear ho hS
   by_cases n1 : kd = 1
   · subst n1; have hhi : Hid (∀ u, Calls Tryz.prog 42 #[.int .u64 (u64 by_ : Int), .int .i64 8] u (BytesPost u 8 (be 8 (u64 by_)))) := fun u => high_doc (u64 by_) 8 u (by decide)
     go_wp2_with fail
     refine (hhi.out _).mono ?_; rintro e w3 ⟨q3, c3, rfl, ho3, hb3⟩; have hown3 := lh (ho'.out.below hb3); have hS3 := lh (below_step hb3 hS'.out.1); have hho := lh ho3.holds.1; have hsz3 := lh hS3.out.size; clear ho3 hb3
     go_wp2_with (first
      | (at_builtin
         refine wpList_append_bytes rfl (.tmp 39) (.tmp 43) rfl rfl rfl hown3.out hho.out (by have := hlen.out; omega) hsz3.out ?_; intro q4 c4 w4 h4 hg4; have ho4 := lh h4; have hd4 := lh (hown3.out.up hg4 hS3.out (Nat.le_refl _))
         clear h4 hg4))
     go_ret
     have he : encStep ⟨1, ⟨⟨t, id⟩, v, s⟩, by_⟩ = L2 ++ be 8 (u64 by_) := by rw [← hL2.out]; unfold encStep; rw [if_neg (show ¬ (1 : Int) = 2 by decide), if_neg (show ¬ (1 : Int) = 3 by decide), if_pos rfl, hbd.out, hbt.out]; simp
     have hl : (encStep ⟨1, ⟨⟨t, id⟩, v, s⟩, by_⟩).length = L2.length + 8 := by rw [he, List.length_append, length_be]
     exact ⟨.slice q4 (L2.length + 8) c4, rfl, q4, c4, by rw [hl], by rw [hl, he]; exact ho4.out.mono hbx.out.1.size, hbx.out.1.trans (hd4.out.mono hbx.out.1.size)⟩
   · have n4 : kd = 4 := by omega
     subst n4; go_wp2; go_ret
     have he : encStep ⟨4, ⟨⟨t, id⟩, v, s⟩, by_⟩ = L2 := by rw [← hL2.out]; unfold encStep; rw [if_neg (show ¬ (4 : Int) = 2 by decide), if_neg (show ¬ (4 : Int) = 3 by decide), if_neg (show ¬ (4 : Int) = 1 by decide), hbd.out, hbt.out]; simp
     exact ⟨.slice q L2.length c, rfl, q, c, by rw [he], by rw [he]; exact ho'.out.mono hbx.out.1.size, hbx.out.1.trans (hS'.out.1.mono hbx.out.1.size)⟩
end Go.Proofs.YtocekhckmpkbmaaGreat
namespace Go.Proofs.YtocekhckmpkbmaaGreat
open Go.RowKit Go.ChangeMaps
def kindsW (g : Nat) (j : Int) : Option Value := if j = 9 then some (.func (.func 99) #[.pointer (some ⟨g, 0, none⟩)] #[]) else if j = 8 then some (.func (.func 94) #[.pointer (some ⟨g, 0, none⟩)] #[]) else if j = 7 then some (.func (.func 94) #[.pointer (some ⟨g, 0, none⟩)] #[]) else if j = 6 then some (.func (.func 94) #[.pointer (some ⟨g, 0, none⟩)] #[]) else if j = 5 then some (.func (.func 98) #[.pointer (some ⟨g, 0, none⟩)] #[]) else if j = 4 then some (.func (.func 97) #[.pointer (some ⟨g, 0, none⟩)] #[]) else if j = 3 then some (.func (.func 96) #[.pointer (some ⟨g, 0, none⟩)] #[]) else if j = 2 then some (.func (.func 95) #[.pointer (some ⟨g, 0, none⟩)] #[]) else if j = 1 then some (.func (.func 94) #[.pointer (some ⟨g, 0, none⟩)] #[]) else none
def encRest (r : RecD) : List UInt8 :=
 if r.kind = 2 then be 1 (u64 (r.images.length : Int)) ++ encL encImg r.images
 else if r.kind = 3 then be 8 r.next.toNat
 else if r.kind = 4 then be 8 r.next.toNat ++ (be 1 (u64 (r.steps.length : Int)) ++ encL encStep r.steps)
 else if r.kind = 5 then be 8 r.next.toNat ++ (be 1 (u64 (r.images.length : Int)) ++ encL encAft r.images)
 else if r.kind = 9 then be 4 (u64 r.nextTxn) ++ (be 1 (u64 (r.txns.length : Int)) ++ (encL encTxn r.txns ++ (be 1 (u64 (r.dirty.length : Int)) ++ encL encPg r.dirty)))
 else []
def encRec (r : RecD) : List UInt8 := (((be 1 (u64 r.kind) ++ be 8 r.lsn.toNat) ++ be 4 (u64 r.txn)) ++ be 8 r.prev.toNat) ++ encRest r
/-- what can be laid -/
def LayOk (r : RecD) : Prop :=
 if r.kind = 2 then (∀ d ∈ r.images, GoodC d.bef ∧ GoodC d.aft) ∧ r.images.length ≤ 16
 else if r.kind = 4 then (∀ s ∈ r.steps, stpB s = true) ∧ r.steps.length ≤ 2
 else if r.kind = 5 then (∀ d ∈ r.images, GoodC d.aft) ∧ r.images.length ≤ 16
 else if r.kind = 9 then r.txns.length ≤ 8 ∧ r.dirty.length ≤ 64
 else r.kind = 1 ∨ r.kind = 3 ∨ r.kind = 6 ∨ r.kind = 7 ∨ r.kind = 8
def LaidPost (r : RecD) (w : World) (e : Ending) (w' : World) : Prop := ∃ q n c, e = .returned (.slice q n c) ∧ Own w' w.heap.size (.slice q n c) (encRec r) ∧ Below w.heap.size w w' 
set_option maxRecDepth 100000 in
set_option maxHeartbeats 4000000 in
theorem kindsW_any (g : Nat) (w : World) :
 Calls Tryz.prog 69 #[.pointer (some ⟨g, 0, none⟩)] w (fun e w' => ∃ b, e = .returned (.map (some b)) ∧ IMap .i64 w' b 9 (kindsW g) ∧ Below w.heap.size w w') := by
 have hmm := @run_makeMap Tryz.prog; obtain ⟨W2, hW2⟩ : ∃ W2, w.alloc (.map #[] 0) = W2 := ⟨_, rfl⟩; have hm0 : Hid (IMap .i64 W2 w.heap.size 0 (fun _ => none)) := by rw [← hW2]; exact IMap.made _ _
 have hb2 : Hid (Below w.heap.size w W2) := by rw [← hW2]; exact (Below.refl _ _).alloc (Nat.le_refl _) _
 have hg0 : Hid (W2.grownBy W2 (some w.heap.size)) := Gr.refl _ _
 go_enter Tryz.func69, Tryz.ntmps69
 go_wp2_with (first
  | ((with_reducible refine wpList_insert_i rfl (.tmp 3) (.const (.int .i64 1)) (.tmp 5) 112 rfl Tryz.underlying112 Tryz.underlying3 rfl rfl rfl hm0.out ?_)
     intro w1 h1 g1; have hm1 := lh h1; have hg1 := lh (hg0.out.trans g1)
     clear h1 g1)
  | ((with_reducible refine wpList_insert_i rfl (.tmp 3) (.const (.int .i64 2)) (.tmp 7) 112 rfl Tryz.underlying112 Tryz.underlying3 rfl rfl rfl hm1.out ?_)
     intro w2 h2 g2; have hm2 := lh h2; have hg2 := lh (hg1.out.trans g2)
     clear h2 g2)
  | ((with_reducible refine wpList_insert_i rfl (.tmp 3) (.const (.int .i64 3)) (.tmp 9) 112 rfl Tryz.underlying112 Tryz.underlying3 rfl rfl rfl hm2.out ?_)
     intro w3 h3 g3; have hm3 := lh h3; have hg3 := lh (hg2.out.trans g3)
     clear h3 g3)
  | ((with_reducible refine wpList_insert_i rfl (.tmp 3) (.const (.int .i64 4)) (.tmp 11) 112 rfl Tryz.underlying112 Tryz.underlying3 rfl rfl rfl hm3.out ?_)
     intro w4 h4 g4; have hm4 := lh h4; have hg4 := lh (hg3.out.trans g4)
     clear h4 g4)
  | ((with_reducible refine wpList_insert_i rfl (.tmp 3) (.const (.int .i64 5)) (.tmp 13) 112 rfl Tryz.underlying112 Tryz.underlying3 rfl rfl rfl hm4.out ?_)
     intro w5 h5 g5; have hm5 := lh h5; have hg5 := lh (hg4.out.trans g5)
     clear h5 g5)
  | ((with_reducible refine wpList_insert_i rfl (.tmp 3) (.const (.int .i64 6)) (.tmp 15) 112 rfl Tryz.underlying112 Tryz.underlying3 rfl rfl rfl hm5.out ?_)
     intro w6 h6 g6; have hm6 := lh h6; have hg6 := lh (hg5.out.trans g6)
     clear h6 g6)
  | ((with_reducible refine wpList_insert_i rfl (.tmp 3) (.const (.int .i64 7)) (.tmp 17) 112 rfl Tryz.underlying112 Tryz.underlying3 rfl rfl rfl hm6.out ?_)
     intro w7 h7 g7; have hm7 := lh h7; have hg7 := lh (hg6.out.trans g7)
     clear h7 g7)
  | ((with_reducible refine wpList_insert_i rfl (.tmp 3) (.const (.int .i64 8)) (.tmp 19) 112 rfl Tryz.underlying112 Tryz.underlying3 rfl rfl rfl hm7.out ?_)
     intro w8 h8 g8; have hm8 := lh h8; have hg8 := lh (hg7.out.trans g8)
     clear h8 g8)
  | ((with_reducible refine wpList_insert_i rfl (.tmp 3) (.const (.int .i64 9)) (.tmp 21) 112 rfl Tryz.underlying112 Tryz.underlying3 rfl rfl rfl hm8.out ?_)
     intro w9 h9 g9; have hm9 := lh h9; have hg9 := lh (hg8.out.trans g9)
     clear h9 g9))
 go_ret; exact ⟨_, rfl, hm9.out, Gr.below hg9.out hb2.out (Nat.le_refl _)⟩
set_option maxRecDepth 100000 in
set_option maxHeartbeats 1000000 in
theorem nothing_wr (g : Nat) (kind lsn txn prev next nextTxn : Int) (iq sq tq dq : Option Addr) (im ic sn sc tn tc dn dc : Nat) (w : World) :
 Calls Tryz.prog 94 #[.pointer (some ⟨g, 0, none⟩), .agg #[.int .i64 kind, .int .u64 lsn, .int .i64 txn, .int .u64 prev, .int .u64 next, .slice iq im ic, .slice sq sn sc, .int .i64 nextTxn, .slice tq tn tc, .slice dq dn dc]] w (fun e w' => e = .returned (.tuple #[]) ∧ Below w.heap.size w w') := by
 obtain ⟨W, hW⟩ : ∃ W, w.alloc (.cells #[.int .i64 kind, .int .u64 lsn, .int .i64 txn, .int .u64 prev, .int .u64 next, .slice iq im ic, .slice sq sn sc, .int .i64 nextTxn, .slice tq tn tc, .slice dq dn dc] 30) = W := ⟨_, rfl⟩; have hbx := lh (one_box hW)
 go_enter Tryz.func94, Tryz.ntmps94
 go_wp2; go_end0; exact ⟨rfl, hbx.out.1⟩
set_option maxRecDepth 100000 in
set_option maxHeartbeats 8000000 in
theorem laidK (F : Nat) (kind : Int) (lsn txn prev next nextTxn : Int) (iq sq tq dq : Option Addr) (im ic sn sc tn tc dn dc : Nat) (V : List ImgV) (r : RecD) (w : World) (h : RecV.On ⟨kind, lsn, txn, prev, next, iq, im, ic, sq, sn, sc, nextTxn, tq, tn, tc, dq, dn, dc⟩ w V r) (hkF : ∀ g, kindsW g kind = some (.func (.func F) #[.pointer (some ⟨g, 0, none⟩)] #[])) (hcf : ∀ (args : Array Value) (u : World), (callFunc F args).run Tryz.prog u = .ok (.enter F args) u)
 (hF : ∀ (g : Nat) (o : Option Nat) (L : List UInt8) (u : World), w.heap.size + 1 = g → Below w.heap.size w u → Wr u g o L → L.length ≤ 21 → Calls Tryz.prog F #[.pointer (some ⟨g, 0, none⟩), .agg #[.int .i64 kind, .int .u64 lsn, .int .i64 txn, .int .u64 prev, .int .u64 next, .slice iq im ic, .slice sq sn sc, .int .i64 nextTxn, .slice tq tn tc, .slice dq dn dc]] u (fun e u2 => ∃ o9, e = .returned (.tuple #[]) ∧ Wr u2 g o9 (L ++ encRest r) ∧ WStep u u2 g o o9)) :
 Calls Tryz.prog 41 #[.agg #[.int .i64 kind, .int .u64 lsn, .int .i64 txn, .int .u64 prev, .int .u64 next, .slice iq im ic, .slice sq sn sc, .int .i64 nextTxn, .slice tq tn tc, .slice dq dn dc]] w (LaidPost r w) := by
 obtain ⟨W0, hW0⟩ : ∃ W0, w.alloc (.cells #[.int .i64 kind, .int .u64 lsn, .int .i64 txn, .int .u64 prev, .int .u64 next, .slice iq im ic, .slice sq sn sc, .int .i64 nextTxn, .slice tq tn tc, .slice dq dn dc] 30) = W0 := ⟨_, rfl⟩; have hb0 := lh (one_box hW0); obtain ⟨W, hW⟩ : ∃ W, W0.alloc (.cells #[.slice none 0 0] 109) = W := ⟨_, rfl⟩; have hb1 := lh (one_box hW); have hg : Hid (W0.heap.size = w.heap.size + 1) := hb0.out.2.2; obtain ⟨g, hgg⟩ : ∃ g, w.heap.size + 1 = g := ⟨_, rfl⟩; have hg : Hid (W0.heap.size = g) := by show _ = _; rw [← hgg]; exact hg.out
 have wr0 : Hid (Wr W g none []) := by have h1 := Wr.made hW; rw [hg.out] at h1; exact h1
 have st0 := lh (WStep.refl W g none); have ne := lh (show w.heap.size ≠ g from by omega); have no : Hid ((none : Option Nat) ≠ some w.heap.size) := fun e => by cases e
 have hbb := lh (hb0.out.1.trans (hb1.out.1.mono hb0.out.1.size)); have lt := lh (show w.heap.size < W.heap.size from by have h1 := hb1.out.1.size; have h2 := hg.out; omega); have hbx := lh (hb0.out.2.1.below hb1.out.1 (Nat.le_refl _)); have ln0 : Hid (([] : List UInt8).length ≤ 0) := Nat.le_refl _; have v0 := u64_wrap kind; have v1 := u64_wrap txn; have hu1 : Hid (U64 lsn) := by have h1 := h.ints.2.1; rw [← h.lsn] at h1; exact h1
 have hu3 : Hid (U64 prev) := by have h1 := h.ints.2.2.2.1; rw [← h.prev] at h1; exact h1
 have hk : Hid (r.kind = kind) := h.kind.symm; have hsz : Hid (w.heap.size + 1 = g) := hgg; have hW0s := hg.out; have z0 := hbx.out.cell 0 rfl; have hnb := lh hb1; have hon := lh h; have hF := lh hF; have hd := lh (fun x o1 (hs : WStep W x g none o1) => hbb.out.trans (hs.below (B := w.heap.size) (by have := lt.out; omega) (by have := hsz.out; omega) (fun k e => by cases e))); have hzr : (Tryz.prog.info? 30).map (·.size) = some ([.int .i64 kind, .int .u64 lsn, .int .i64 txn, .int .u64 prev, .int .u64 next, .slice iq im ic, .slice sq sn sc, .int .i64 nextTxn, .slice tq tn tc, .slice dq dn dc] : List Value).length := sizeRec ⟨kind, lsn, txn, prev, next, iq, im, ic, sq, sn, sc, nextTxn, tq, tn, tc, dq, dn, dc⟩; clear h hgg hb1; show Calls _ _ #[.agg #[.int .i64 kind, .int .u64 lsn, .int .i64 txn, .int .u64 prev, .int .u64 next, .slice iq im ic, .slice sq sn sc, .int .i64 nextTxn, .slice tq tn tc, .slice dq dn dc]] _ _
 go_enter Tryz.func41, Tryz.ntmps41
 obtain ⟨ub1, hub1⟩ : ∃ y, W.alloc (.cells #[.int .u64 (u64 kind : Int)] 24) = y := ⟨_, rfl⟩
 go_wp2_with fail
 refine (num1 g none ([] : List UInt8) 1 7 rfl (by decide) (u64 kind : Int) (u64_ok kind) W ub1 wr0.out hub1 (by have h1 := ln0.out; omega)).mono ?_; clear hub1 hW hW0 hW0s z0 v0; rintro e w1 ⟨o1, rfl, hw, hs⟩; have wr1 := lh hw; have st1 := lh (st0.out.trans hs); have ln1 := lh (len_app ln0.out (show (be 1 ((u64 kind : Int)).toNat).length ≤ 1 from Nat.le_of_eq (length_be _ _))); clear hw hs; have bx1 := lh (hbx.out.wstep st1.out lt.out ne.out no.out); have z1 := bx1.out.cell 1 rfl; obtain ⟨ub2, hub2⟩ : ∃ y, w1.alloc (.cells #[.int .u64 lsn] 24) = y := ⟨_, rfl⟩
 go_wp2_with fail
 refine (num1 g o1 (([] : List UInt8) ++ be 1 ((u64 kind : Int)).toNat) 8 0 rfl (by decide) lsn hu1.out w1 ub2 wr1.out hub2 (by have h1 := ln1.out; omega)).mono ?_; clear hub2 z1; rintro e w2 ⟨o2, rfl, hw, hs⟩; have wr2 := lh hw; have st2 := lh (st1.out.trans hs); have ln2 := lh (len_app ln1.out (show (be 8 (lsn).toNat).length ≤ 8 from Nat.le_of_eq (length_be _ _))); clear hw hs; have bx2 := lh (hbx.out.wstep st2.out lt.out ne.out no.out); have z2 := bx2.out.cell 2 rfl; obtain ⟨ub3, hub3⟩ : ∃ y, w2.alloc (.cells #[.int .u64 (u64 txn : Int)] 24) = y := ⟨_, rfl⟩
 go_wp2_with fail
 refine (num1 g o2 ((([] : List UInt8) ++ be 1 ((u64 kind : Int)).toNat) ++ be 8 (lsn).toNat) 4 4 rfl (by decide) (u64 txn : Int) (u64_ok txn) w2 ub3 wr2.out hub3 (by have h1 := ln2.out; omega)).mono ?_; clear hub3 z2 v1; rintro e w3 ⟨o3, rfl, hw, hs⟩; have wr3 := lh hw; have st3 := lh (st2.out.trans hs); have ln3 := lh (len_app ln2.out (show (be 4 ((u64 txn : Int)).toNat).length ≤ 4 from Nat.le_of_eq (length_be _ _))); clear hw hs; have bx3 := lh (hbx.out.wstep st3.out lt.out ne.out no.out); have z3 := bx3.out.cell 3 rfl; obtain ⟨ub4, hub4⟩ : ∃ y, w3.alloc (.cells #[.int .u64 prev] 24) = y := ⟨_, rfl⟩
 go_wp2_with fail
 refine (num1 g o3 (((([] : List UInt8) ++ be 1 ((u64 kind : Int)).toNat) ++ be 8 (lsn).toNat) ++ be 4 ((u64 txn : Int)).toNat) 8 0 rfl (by decide) prev hu3.out w3 ub4 wr3.out hub4 (by have h1 := ln3.out; omega)).mono ?_; clear hub4 z3; rintro e w4 ⟨o4, rfl, hw, hs⟩; have wr4 := lh hw; have st4 := lh (st3.out.trans hs); have ln4 := lh (len_app ln3.out (show (be 8 (prev).toNat).length ≤ 8 from Nat.le_of_eq (length_be _ _))); clear hw hs; have bx4 := lh (hbx.out.wstep st4.out lt.out ne.out no.out)
 go_wp2_with fail
 have hsub : ∀ {u : World}, Boxed u w.heap.size [.int .i64 kind, .int .u64 lsn, .int .i64 txn, .int .u64 prev, .int .u64 next, .slice iq im ic, .slice sq sn sc, .int .i64 nextTxn, .slice tq tn tc, .slice dq dn dc] → u.cell? ⟨w.heap.size, 0, none⟩ = some (.int .i64 kind) := fun hu => hu.cell 0 rfl
 refine wp_region_held (S := fun u => Boxed u w.heap.size [.int .i64 kind, .int .u64 lsn, .int .i64 txn, .int .u64 prev, .int .u64 next, .slice iq im ic, .slice sq sn sc, .int .i64 nextTxn, .slice tq tn tc, .slice dq dn dc]) (by kernel_rfl) ?_; have hdr : Below w4.heap.size w4 (World.drew w4) := below_drew w4; have hX : Boxed (World.drew w4) w.heap.size [.int .i64 kind, .int .u64 lsn, .int .i64 txn, .int .u64 prev, .int .u64 next, .slice iq im ic, .slice sq sn sc, .int .i64 nextTxn, .slice tq tn tc, .slice dq dn dc] := bx4.out.below hdr (Nat.le_refl _); have wrd := wr4.out.below hdr; have std := st4.out.trans (WStep.of_below hdr); change wpAnyH _ _ _ _ _ _ _ _ (World.drew w4); generalize World.drew w4 = u0 at hX wrd std ⊢; refine tg 0 28 (.pointer (some ⟨g, 0, none⟩)) hX ?_; go_frame; refine tg 2 30 (.pointer (some ⟨w.heap.size, 0, none⟩)) hX ?_; go_frame; refine held_tk (i := 3) (dst := some 31) rfl (v := .int .i64 kind) rfl (.inl ⟨rfl, fun u hu => by have c1 := hsub hu; go_simp⟩) hX ?_; go_frame
 refine held_tk (i := 5) (dst := some 33) rfl (v := .agg #[.int .i64 kind, .int .u64 lsn, .int .i64 txn, .int .u64 prev, .int .u64 next, .slice iq im ic, .slice sq sn sc, .int .i64 nextTxn, .slice tq tn tc, .slice dq dn dc]) rfl (y_load_agg 30 (.tmp 1) rfl rfl rfl (fun u hu => run_loadVar_at Tryz.underlying30 rfl hzr _ hu.all)) hX ?_; go_frame; refine held_call (i := 1) (dst := some 29) rfl rfl (by kernel_rfl) rfl (by go_simp) (kindsW_any g u0) ?_; rintro e u1 ⟨mb, rfl, hmap, hbk⟩; have hX1 : Boxed u1 w.heap.size [.int .i64 kind, .int .u64 lsn, .int .i64 txn, .int .u64 prev, .int .u64 next, .slice iq im ic, .slice sq sn sc, .int .i64 nextTxn, .slice tq tn tc, .slice dq dn dc] := hX.below hbk (Nat.le_refl _); refine ⟨_, rfl, hX1, ?_⟩; go_frame; have wrk := wrd.below hbk; have stk := std.trans (WStep.of_below hbk); have hzf : (zeroValue 111).run Tryz.prog u1 = .ok (.nilFunc) u1 := by kernel_rfl
 have hlook := run_lookup_i hmap Tryz.underlying112 Tryz.underlying3 kind hzf; have hlk := hlook.2; have hkf : (kindsW g kind).getD .nilFunc = (.func (.func F) #[.pointer (some ⟨g, 0, none⟩)] #[]) := by rw [hkF g]; rfl
 rw [hkf] at hlk; refine held_value (i := 4) (dst := some 32) rfl (v := .func (.func F) #[.pointer (some ⟨g, 0, none⟩)] #[]) (w' := u1) rfl (by kernel_rfl) rfl (by go_simp) hX1 ?_; go_frame; have lt1 : w.heap.size < u1.heap.size := by have h1 := hX1.cell 0 rfl; have h2 := cell_in h1; exact h2
 have no4 : o4 ≠ some w.heap.size := fun e => by have h1 := wrk.far _ e; have h2 := hsz.out; omega
 have hub := hd.out u1 _ stk; refine held_call (i := 6) (dst := some 34) rfl rfl (by kernel_rfl) rfl (by go_simp) (hF.out g o4 ((((([] : List UInt8) ++ be 1 ((u64 kind : Int)).toNat) ++ be 8 (lsn).toNat) ++ be 4 ((u64 txn : Int)).toNat) ++ be 8 (prev).toNat) u1 hsz.out hub wrk (by have h1 := ln4.out; omega)) ?_; rintro e u2 ⟨o9, rfl, hw9, hs9⟩; refine ⟨_, rfl, hX1.wstep hs9 lt1 ne.out no4, ?_⟩; go_frame; refine wpAnyH_done (by kernel_rfl) ?_ _; obtain ⟨q, cp, hr9, ho9, _⟩ := hw9; have hst9 := lh (stk.trans hs9); have e0 := hk.out; have e1 : r.lsn = lsn := hon.out.lsn.symm; have e2 : r.txn = txn := hon.out.txn.symm; have e3 : r.prev = prev := hon.out.prev.symm
 have hen : Hid ((((((([] : List UInt8) ++ be 1 ((u64 kind : Int)).toNat) ++ be 8 (lsn).toNat) ++ be 4 ((u64 txn : Int)).toNat) ++ be 8 (prev).toNat) ++ encRest r) = encRec r) := by show _ = _; unfold encRec; simp only [e0, e1, e2, e3]; simp
 clear e0 e1 e2 e3; obtain ⟨LL, hLL⟩ : ∃ LL, (((((([] : List UInt8) ++ be 1 ((u64 kind : Int)).toNat) ++ be 8 (lsn).toNat) ++ be 4 ((u64 txn : Int)).toNat) ++ be 8 (prev).toNat) ++ encRest r) = LL := ⟨_, rfl⟩; rw [hLL] at hen; rw [hLL] at hr9 ho9; obtain ⟨n9, hn9⟩ : ∃ n9, LL.length = n9 := ⟨_, rfl⟩; rw [hn9] at hr9 ho9; have c9 := hr9.cell 0; have ho9 := lh ho9; clear hkf hr9 hs9 hX hX1 wrd std wrk stk hmap hlook hlk hub hsub hzf hLL hn9 hdr hbk; go_wp2; go_ret; have hfin := hen.out; subst hfin; exact ⟨q, _, cp, rfl, ho9.out.mono (by have h2 := hsz.out; omega), hd.out u2 _ hst9.out⟩
set_option maxRecDepth 100000 in
theorem laid_any (v : RecV) (V : List ImgV) (r : RecD) (w : World) (h : v.On w V r) (hlay : LayOk r) :
 Calls Tryz.prog 41 #[v.val] w (LaidPost r w) := by
 obtain ⟨kind, lsn, txn, prev, next, iq, im, ic, sq, sn, sc, nextTxn, tq, tn, tc, dq, dn, dc⟩ := v; have hk : r.kind = kind := h.kind.symm; have hi : r.images.length = im := by have h1 := h.images.on.len; have h2 := h.images.len; simp only at h1; omega
 have hs : r.steps.length = sn := h.steps.len; have ht : r.txns.length = tn := h.txns.len; have hd : r.dirty.length = dn := h.dirty.len; have e4 : r.next = next := h.next.symm; have e7 : r.nextTxn = nextTxn := h.nextTxn.symm; have hly := hlay; unfold LayOk at hly
 by_cases n1 : kind = 1
 · subst n1; rw [hk] at hly; simp only [Int.reduceEq, if_false] at hly; refine laidK 94 1 lsn txn prev next nextTxn iq sq tq dq im ic sn sc tn tc dn dc V r w h (fun _ => rfl) (fun _ _ => rfl) (fun g o L u hg hub wr hl => ?_); have hE : encRest r = [] := by unfold encRest; simp only [hk, Int.reduceEq, if_false]
   refine (nothing_wr g 1 lsn txn prev next nextTxn iq sq tq dq im ic sn sc tn tc dn dc u).mono ?_; rintro e u2 ⟨rfl, hbz⟩; rw [hE, List.append_nil]; exact ⟨_, rfl, wr.below hbz, WStep.of_below hbz⟩
 by_cases n2 : kind = 2
 · subst n2; rw [hk] at hly; simp only [Int.reduceEq, if_true, if_false] at hly; refine laidK 95 2 lsn txn prev next nextTxn iq sq tq dq im ic sn sc tn tc dn dc V r w h (fun _ => rfl) (fun _ _ => rfl) (fun g o L u hg hub wr hl => ?_); have hE : encRest r = (be 1 (u64 (im : Int)) ++ encL encImg r.images) := by unfold encRest; simp only [hk, hi, hs, ht, hd, e4, e7, Int.reduceEq, if_true, if_false]
   refine (change_wr g o L 2 lsn txn prev next nextTxn iq sq tq dq im ic sn sc tn tc dn dc V r w u h hub (by omega) wr hly.1 (by have h1 := hly.2; omega) (by omega)).mono ?_; rintro e u2 ⟨o9, rfl, hw9, hs9⟩; rw [hE]; exact ⟨o9, rfl, hw9, hs9⟩
 by_cases n3 : kind = 3
 · subst n3; rw [hk] at hly; simp only [Int.reduceEq, if_false] at hly; refine laidK 96 3 lsn txn prev next nextTxn iq sq tq dq im ic sn sc tn tc dn dc V r w h (fun _ => rfl) (fun _ _ => rfl) (fun g o L u hg hub wr hl => ?_); have hE : encRest r = be 8 next.toNat := by unfold encRest; simp only [hk, hi, hs, ht, hd, e4, e7, Int.reduceEq, if_true, if_false]
   refine (nested_wr g o L 3 lsn txn prev next nextTxn iq sq tq dq im ic sn sc tn tc dn dc V r w u h hub (by omega) wr  (by omega)).mono ?_; rintro e u2 ⟨o9, rfl, hw9, hs9⟩; rw [hE]; exact ⟨o9, rfl, hw9, hs9⟩
 by_cases n4 : kind = 4
 · subst n4; rw [hk] at hly; simp only [Int.reduceEq, if_true, if_false] at hly; refine laidK 97 4 lsn txn prev next nextTxn iq sq tq dq im ic sn sc tn tc dn dc V r w h (fun _ => rfl) (fun _ _ => rfl) (fun g o L u hg hub wr hl => ?_); have hE : encRest r = (be 8 next.toNat ++ (be 1 (u64 (sn : Int)) ++ encL encStep r.steps)) := by unfold encRest; simp only [hk, hi, hs, ht, hd, e4, e7, Int.reduceEq, if_true, if_false]
   refine (done_wr g o L 4 lsn txn prev next nextTxn iq sq tq dq im ic sn sc tn tc dn dc V r w u h hub (by omega) wr hly.1 (by have h1 := hly.2; omega) (by omega)).mono ?_; rintro e u2 ⟨o9, rfl, hw9, hs9⟩; rw [hE]; exact ⟨o9, rfl, hw9, hs9⟩
 by_cases n5 : kind = 5
 · subst n5; rw [hk] at hly; simp only [Int.reduceEq, if_true, if_false] at hly; refine laidK 98 5 lsn txn prev next nextTxn iq sq tq dq im ic sn sc tn tc dn dc V r w h (fun _ => rfl) (fun _ _ => rfl) (fun g o L u hg hub wr hl => ?_); have hE : encRest r = (be 8 next.toNat ++ (be 1 (u64 (im : Int)) ++ encL encAft r.images)) := by unfold encRest; simp only [hk, hi, hs, ht, hd, e4, e7, Int.reduceEq, if_true, if_false]
   refine (undone_wr g o L 5 lsn txn prev next nextTxn iq sq tq dq im ic sn sc tn tc dn dc V r w u h hub (by omega) wr hly.1 (by have h1 := hly.2; omega) (by omega)).mono ?_; rintro e u2 ⟨o9, rfl, hw9, hs9⟩; rw [hE]; exact ⟨o9, rfl, hw9, hs9⟩
 by_cases n6 : kind = 6
 · subst n6; rw [hk] at hly; simp only [Int.reduceEq, if_false] at hly; refine laidK 94 6 lsn txn prev next nextTxn iq sq tq dq im ic sn sc tn tc dn dc V r w h (fun _ => rfl) (fun _ _ => rfl) (fun g o L u hg hub wr hl => ?_); have hE : encRest r = [] := by unfold encRest; simp only [hk, Int.reduceEq, if_false]
   refine (nothing_wr g 6 lsn txn prev next nextTxn iq sq tq dq im ic sn sc tn tc dn dc u).mono ?_; rintro e u2 ⟨rfl, hbz⟩; rw [hE, List.append_nil]; exact ⟨_, rfl, wr.below hbz, WStep.of_below hbz⟩
 by_cases n7 : kind = 7
 · subst n7; rw [hk] at hly; simp only [Int.reduceEq, if_false] at hly; refine laidK 94 7 lsn txn prev next nextTxn iq sq tq dq im ic sn sc tn tc dn dc V r w h (fun _ => rfl) (fun _ _ => rfl) (fun g o L u hg hub wr hl => ?_); have hE : encRest r = [] := by unfold encRest; simp only [hk, Int.reduceEq, if_false]
   refine (nothing_wr g 7 lsn txn prev next nextTxn iq sq tq dq im ic sn sc tn tc dn dc u).mono ?_; rintro e u2 ⟨rfl, hbz⟩; rw [hE, List.append_nil]; exact ⟨_, rfl, wr.below hbz, WStep.of_below hbz⟩
 by_cases n8 : kind = 8
 · subst n8; rw [hk] at hly; simp only [Int.reduceEq, if_false] at hly; refine laidK 94 8 lsn txn prev next nextTxn iq sq tq dq im ic sn sc tn tc dn dc V r w h (fun _ => rfl) (fun _ _ => rfl) (fun g o L u hg hub wr hl => ?_); have hE : encRest r = [] := by unfold encRest; simp only [hk, Int.reduceEq, if_false]
   refine (nothing_wr g 8 lsn txn prev next nextTxn iq sq tq dq im ic sn sc tn tc dn dc u).mono ?_; rintro e u2 ⟨rfl, hbz⟩; rw [hE, List.append_nil]; exact ⟨_, rfl, wr.below hbz, WStep.of_below hbz⟩
 by_cases n9 : kind = 9
 · subst n9; rw [hk] at hly; simp only [Int.reduceEq, if_true, if_false] at hly; refine laidK 99 9 lsn txn prev next nextTxn iq sq tq dq im ic sn sc tn tc dn dc V r w h (fun _ => rfl) (fun _ _ => rfl) (fun g o L u hg hub wr hl => ?_); have hE : encRest r = (be 4 (u64 nextTxn) ++ (be 1 (u64 (tn : Int)) ++ (encL encTxn r.txns ++ (be 1 (u64 (dn : Int)) ++ encL encPg r.dirty)))) := by unfold encRest; simp only [hk, hi, hs, ht, hd, e4, e7, Int.reduceEq, if_true, if_false]
   refine (ckpt_wr g o L 9 lsn txn prev next nextTxn iq sq tq dq im ic sn sc tn tc dn dc V r w u h hub (by omega) wr (by have h1 := hly.1; omega) (by have h1 := hly.2; omega) (by omega)).mono ?_; rintro e u2 ⟨o9, rfl, hw9, hs9⟩; rw [hE]; exact ⟨o9, rfl, hw9, hs9⟩
 exfalso; rw [hk, if_neg n2, if_neg n4, if_neg n5, if_neg n9] at hly; omega
end Go.Proofs.YtocekhckmpkbmaaGreat
namespace Go.Proofs.YtocekhckmpkbmaaGreat
open Go.RowKit
theorem lit_be (z : Int) : [UInt8.ofNat (z % 256).toNat] = be 1 (u64 z) := by
 have e : (u64 z) % 256 = (z % 256).toNat := by unfold u64; omega
 show _ = [UInt8.ofNat (u64 z)]; rw [← e]; congr 1; apply UInt8.toNat.inj; simp
theorem mk_lit8 {o : Oper} {a : Act} {u : World} {t : Nat} {z : Int} (ho : o.op = .buildSlice 36 1 #[(0, .tmp t)]) (he : a.eval (.tmp t) = .int .u8 (z % 256)) : Ends Tryz.prog o a u (PcM (be 1 (u64 z)) u) := by
 rw [← lit_be]; exact mk_lit ho he (Int.emod_nonneg _ (by decide)) (Int.emod_lt_of_pos _ (by decide))
theorem lit_made {w w' : World} {z : Int} (h : w.alloc (.cells #[.int .u8 (z % 256)] 5) = w') : Lib.HoldsBytes w' (.slice (some ⟨w.heap.size, 0, none⟩) 1 1) (be 1 (u64 z)) ∧ Below w.heap.size w w' := by
 subst h; have h := made1 w (UInt8.ofNat (z % 256).toNat); rw [ofNat_int (Int.emod_nonneg _ (by decide)) (Int.emod_lt_of_pos _ (by decide)), lit_be] at h; exact ⟨h.holds 1, (Below.refl _ _).alloc (Nat.le_refl _) _⟩
/-- the bytes L are laid, in memory of the call's own -/
def Out (W u : World) (q : Option Addr) (c : Nat) (L : List UInt8) : Prop := Below W.heap.size W u ∧ Own u W.heap.size (.slice q L.length c) L
theorem Out.below {W u u' : World} {q : Option Addr} {c : Nat} {L : List UInt8} (h : Out W u q c L) (hb : Below u.heap.size u u') : Out W u' q c L := ⟨below_step hb h.1, h.2.below hb⟩
theorem Out.box {T : TypeId} (hT : T ≠ 5) {W u u' : World} {q : Option Addr} {c g : Nat} {L : List UInt8} {cs : List Value} (h : Out W u q c L) (hR : RowV T u g cs) (hg : u.grownBy u' (blockOf q)) : RowV T u' g cs := hR.block (grown_kp hg hR.lt (own_neT hT h.2 hR))
theorem Out.done {w W u : World} {q : Option Addr} {c : Nat} {L : List UInt8} {r : RecD} (h : Out W u q c L) (hW : Below w.heap.size w W) (he : encRec r = L) : LaidPost r w (.returned (.slice q L.length c)) u :=
 ⟨q, L.length, c, rfl, by rw [he]; exact h.2.mono hW.size, hW.trans (h.1.mono hW.size)⟩
theorem run_out {W w : World} {q0 q : Option Addr} {c0 m d : Nat} {L k : List UInt8} (ty : TypeId) (hO : Out W w q0 c0 L) (hk : Lib.HoldsBytes w (.slice q m d) k) (hbig : L.length ≤ 1000000) (hm : m ≤ 1000000) :
 ∃ q' c' w' L', L ++ k = L' ∧ (Builtin.append_ #[36, 36] ty #[.slice q0 L.length c0, .slice q m d]).run Tryz.prog w = .ok (.slice q' L'.length c') w' ∧ Out W w' q' c' L' ∧ w.grownBy w' (blockOf q0) := by
 obtain ⟨q', c', w', h1, h2, h3⟩ := run_append_bytes (m := m) ty hO.2 hk (by omega) hO.1.size; have e : L.length + m = (L ++ k).length := by rw [List.length_append, holds_len hk]
 rw [e] at h1 h2; exact ⟨q', c', w', _, rfl, h1, ⟨hO.2.up h3 hO.1 (Nat.le_refl _), h2⟩, h3⟩
theorem wpList_out {W w : World} {ops : Array Oper} {rest : List Oper} {o : Oper} {a : Act} {Q : Exit → Act → World → Prop} (hgd : o.guard = none) (s x : Operand)
 (ho : o.op = .call { callee := .builtin .append, args := #[s, x], argTypes := #[36, 36] }) {q0 q : Option Addr} {c0 m d : Nat} {L k : List UInt8} (hs : a.eval s = .slice q0 L.length c0) (hx : a.eval x = .slice q m d)
 (hO : Out W w q0 c0 L) (hk : Lib.HoldsBytes w (.slice q m d) k) (hbig : L.length ≤ 1000000) (hm : m ≤ 1000000)
 (h : ∀ q' c' w' L', L ++ k = L' → Out W w' q' c' L' → w.grownBy w' (blockOf q0) → wpList Tryz.prog ops Q rest (a.put o.dst (.slice q' L'.length c')) w') : wpList Tryz.prog ops Q (o :: rest) a w := by
 obtain ⟨q', c', w', L', hl, hr, h1, h2⟩ := run_out o.type hO hk hbig hm; exact Lib.wpList_append_run_sl w hgd s x 36 ho _ _ hs hx hr (h q' c' w' L' hl h1 h2)
section
variable {ops : Array Oper} {Q : Exit → Act → World → Prop} {md : Region.Mode} {S : World → Prop} {B : Nat}
theorem two_mk {fuel : Nat} (hKS : KeepS S B) (env : List (Nat × Value)) {l : Array Bool} {a : Act} {u : World} {oi oj : Oper} {ki kj : List UInt8} (i di j dj : Nat) (hi : ops[i]? = some oi) (hj : ops[j]? = some oj) (hdi : oi.dst = some di) (hdj : oj.dst = some dj)
 (hwi : ∀ y, Region.wanted oi y = true) (hwj : ∀ y, Region.wanted oj y = true) (mi : ∀ a u, Env a env → S u → Ends Tryz.prog oi a u (PcM ki u)) (mj : ∀ a u, Env a env → S u → Ends Tryz.prog oj a u (PcM kj u)) (hS : S u) (henv : Env a env)
 (hd : ((env.map Prod.fst).all (fun t => t != di && t != dj) && (di != dj && i != j)) = true) (hr : Region.ready md ops l = [i, j]) (hri : Region.ready md ops (l.setIfInBounds i true) = [j]) (hrj : Region.ready md ops (l.setIfInBounds j true) = [i])
 (h : ∀ p c p' c' u', S u' → Own u' B (.slice p ki.length c) ki → Own u' B (.slice p' kj.length c') kj → wpAnyH Tryz.prog md ops Q S fuel ((l.setIfInBounds i true).setIfInBounds j true) ((a.put (some di) (.slice p ki.length c)).put (some dj) (.slice p' kj.length c')) u') :
 wpAnyH Tryz.prog md ops Q S (fuel + 2) l a u := by
 simp only [Bool.and_eq_true, List.all_eq_true, bne_iff_ne] at hd; obtain ⟨hd1, hd2, hd3⟩ := hd; have ei : ∀ v, Env (a.put (some di) v) env := fun v => henv.of fun x hx => put_ne (hd1 x.1 (List.mem_map_of_mem hx)).1
 have ej : ∀ v, Env (a.put (some dj) v) env := fun v => henv.of fun x hx => put_ne (hd1 x.1 (List.mem_map_of_mem hx)).2
 refine wpAnyH_all hr (by simp) (fun k hk => ?_); rcases List.mem_cons.1 hk with rfl | hk
 · refine (mi a u henv hS).op hi (hwi _) fun v u1 hv => ?_
   obtain ⟨p, c, rfl, ho1, hb1⟩ := hv; have hS1 := hKS.2.1 _ _ hS hb1; refine ⟨hS1, ?_⟩; rw [hdi]; refine wpAnyH_all hri (by simp) (fun k hk => ?_); rw [List.mem_singleton.1 hk]; refine (mj _ u1 (ei _) hS1).op hj (hwj _) fun v u2 hv => ?_
   obtain ⟨p', c', rfl, ho2, hb2⟩ := hv; have hS2 := hKS.2.1 _ _ hS1 hb2; refine ⟨hS2, ?_⟩; rw [hdj]; exact h p c p' c' u2 hS2 ((ho1.below hb2).mono (hKS.1 u hS)) (ho2.mono (hKS.1 u1 hS1))
 · rw [List.mem_singleton.1 hk]; refine (mj a u henv hS).op hj (hwj _) fun v u1 hv => ?_
   obtain ⟨p', c', rfl, ho1, hb1⟩ := hv; have hS1 := hKS.2.1 _ _ hS hb1; refine ⟨hS1, ?_⟩; rw [hdj]; refine wpAnyH_all hrj (by simp) (fun k hk => ?_); rw [List.mem_singleton.1 hk]; refine (mi _ u1 (ej _) hS1).op hi (hwi _) fun v u2 hv => ?_
   obtain ⟨p, c, rfl, ho2, hb2⟩ := hv; have hS2 := hKS.2.1 _ _ hS1 hb2; refine ⟨hS2, ?_⟩; rw [hdi, Array.setIfInBounds_comm _ _ (Ne.symm hd3), Act.put_comm a _ _ (fun t e1 e2 => hd2 ((Option.some.inj e2).trans (Option.some.inj e1).symm))]; exact h p c p' c' u2 hS2 (ho2.mono (hKS.1 u1 hS1)) ((ho1.below hb2).mono (hKS.1 u hS))
end
theorem rest2 {r : RecD} (h : r.kind = 2) : encRest r = be 1 (u64 (r.images.length : Int)) ++ encL encImg r.images := by unfold encRest; rw [if_pos h]
theorem rest3 {r : RecD} (h : r.kind = 3) : encRest r = be 8 r.next.toNat := by unfold encRest; rw [if_neg (by omega), if_pos h]
theorem rest4 {r : RecD} (h : r.kind = 4) : encRest r = be 8 r.next.toNat ++ (be 1 (u64 (r.steps.length : Int)) ++ encL encStep r.steps) := by unfold encRest; rw [if_neg (by omega), if_neg (by omega), if_pos h]
theorem rest5 {r : RecD} (h : r.kind = 5) : encRest r = be 8 r.next.toNat ++ (be 1 (u64 (r.images.length : Int)) ++ encL encAft r.images) := by unfold encRest; rw [if_neg (by omega), if_neg (by omega), if_neg (by omega), if_pos h]
theorem rest9 {r : RecD} (h : r.kind = 9) : encRest r = be 4 (u64 r.nextTxn) ++ (be 1 (u64 (r.txns.length : Int)) ++ (encL encTxn r.txns ++ (be 1 (u64 (r.dirty.length : Int)) ++ encL encPg r.dirty))) := by unfold encRest; rw [if_neg (by omega), if_neg (by omega), if_neg (by omega), if_neg (by omega), if_pos h]
theorem rest1 {r : RecD} (h : r.kind = 1 ∨ r.kind = 6 ∨ r.kind = 7 ∨ r.kind = 8) : encRest r = [] := by unfold encRest; rw [if_neg (by omega), if_neg (by omega), if_neg (by omega), if_neg (by omega), if_neg (by omega)]
end Go.Proofs.YtocekhckmpkbmaaGreat
