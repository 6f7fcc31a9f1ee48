/- Parts of the proof: The bytes of keys, rows and kids; which rows may be laid; The bytes of rows and kids; Row; The reader of codec: key and row; The reader of codec: row; The reader of codec: kid; The reader of codec: a list of rows; The reader of codec: a list of kids -/
import Derived.Test.YtocekhckmpkbmaaGreatU03
import Derived.Lib.AppendStr
import Derived.Test.YtocekhckmpkbmaaGreatU01
import Derived.Laws.IdiomStrings
namespace Go.Proofs.YtocekhckmpkbmaaGreat
open Go.RowKit
theorem Boxed.key {w : World} {g : Nat} {a b c d : Value} (h : Boxed w g [a, b, c, d]) : ∀ j x, ([a, b] : List Value)[j]? = some x → w.cell? ((⟨g, 0, none⟩ : Addr).add j) = some x := fun j x hj => h j x (by
 match j, hj with
 | 0, hj => exact hj
 | 1, hj => exact hj
 | j + 2, hj => simp at hj)
def tabB (t : Int) : Bool := decide (0 ≤ t) && decide (t < 3)
def chkRowC (r : RowD) : Int := if tabB r.key.t = true ∧ r.note.size ≤ 8 then 0 else 151
set_option maxRecDepth 100000 in
set_option maxHeartbeats 1000000 in
theorem tabled_any (t id : Int) (w : World) : Calls Tryz.prog 130 #[.agg #[.int .i64 t, .int .u16 id]] w (fun e w' => e = .returned (.bool (tabB t)) ∧ Below w.heap.size w w') := by
 have hb : Hid (Below w.heap.size w (w.alloc (.cells #[.int .i64 t, .int .u16 id] 66))) := (Below.refl _ _).alloc (Nat.le_refl _) _
 by_cases h0 : 0 ≤ t
 · by_cases h3 : t < 3
   · rw [show tabB t = true by unfold tabB; simp [h0, h3]]
     go_enter Tryz.func130, Tryz.ntmps130
     go_wp2; go_ret; exact ⟨rfl, hb.out⟩
   · rw [show tabB t = false by unfold tabB; simp [h3]]
     go_enter Tryz.func130, Tryz.ntmps130
     go_wp2; go_ret; exact ⟨rfl, hb.out⟩
 · rw [show tabB t = false by unfold tabB; simp [h0]]
   go_enter Tryz.func130, Tryz.ntmps130
   go_wp2; go_ret; exact ⟨rfl, hb.out⟩
set_option maxRecDepth 100000 in
set_option maxHeartbeats 1000000 in
theorem checkRow_any (t id v : Int) (s : ByteArray) (w : World) (hs : s.size ≤ maxLen) : Calls Tryz.prog 114 #[.agg #[.int .i64 t, .int .u16 id, .int .i64 v, .string s]] w (fun e w' => e = .returned (.int .i64 (chkRowC ⟨⟨t, id⟩, v, s⟩)) ∧ Below w.heap.size w w') := by
 unfold maxLen at hs; obtain ⟨W, hW⟩ : ∃ W, w.alloc (.cells #[.int .i64 t, .int .u16 id, .int .i64 v, .string s] 68) = W := ⟨_, rfl⟩; have hbx := lh (one_box hW); have hs3 := sizeKey t id; have k1 := lh hbx.out.2.1.key; obtain ⟨b, hb⟩ : ∃ b, tabB t = b := ⟨_, rfl⟩; have ht := lh (tabled_any t id W); rw [hb] at ht; have hb' := lh hb; clear hb; cases b with
 | true =>
   by_cases h8 : s.size ≤ 8
   · rw [show chkRowC ⟨⟨t, id⟩, v, s⟩ = 0 from if_pos ⟨hb'.out, h8⟩]; have h8' : ¬ 8 < s.size := by omega
     go_enter Tryz.func114, Tryz.ntmps114
     go_wp2_with (first
      | (with_reducible refine wpList_load_at rfl 66 (.tmp 3) rfl Tryz.underlying66 rfl hs3 rfl k1.out ?_)
      | (go_at_call 130; refine ht.out.mono ?_; rintro e w1 ⟨rfl, hb1⟩; have hd := lh (hbx.out.1.trans (hb1.mono hbx.out.1.size)); have c3 := (hbx.out.2.1.below hb1 (Nat.le_refl _)).cell 3 rfl; clear hb1))
     go_ret; exact ⟨rfl, hd.out⟩
   · rw [show chkRowC ⟨⟨t, id⟩, v, s⟩ = 151 from if_neg (fun h => h8 h.2)]; have h8' : 8 < s.size := by omega
     go_enter Tryz.func114, Tryz.ntmps114
     go_wp2_with (first
      | (with_reducible refine wpList_load_at rfl 66 (.tmp 3) rfl Tryz.underlying66 rfl hs3 rfl k1.out ?_)
      | (go_at_call 130; refine ht.out.mono ?_; rintro e w1 ⟨rfl, hb1⟩; have hd := lh (hbx.out.1.trans (hb1.mono hbx.out.1.size)); have c3 := (hbx.out.2.1.below hb1 (Nat.le_refl _)).cell 3 rfl; clear hb1))
     go_ret; exact ⟨rfl, hd.out⟩
 | false =>
   rw [show chkRowC ⟨⟨t, id⟩, v, s⟩ = 151 from if_neg (fun h => by have := h.1; rw [show tabB (⟨⟨t, id⟩, v, s⟩ : RowD).key.t = false from hb'.out] at this; cases this)]
   go_enter Tryz.func114, Tryz.ntmps114
   go_wp2_with (first
    | (with_reducible refine wpList_load_at rfl 66 (.tmp 3) rfl Tryz.underlying66 rfl hs3 rfl k1.out ?_)
    | (go_at_call 130; refine ht.out.mono ?_; rintro e w1 ⟨rfl, hb1⟩; have hd := lh (hbx.out.1.trans (hb1.mono hbx.out.1.size)); clear hb1))
   go_ret; exact ⟨rfl, hd.out⟩
/-! bytes -/
def encKey (k : KeyD) : List UInt8 := UInt8.ofNat k.t.toNat :: be 2 k.id.toNat
def u64 (v : Int) : Nat := (v % 18446744073709551616).toNat
def encRow (r : RowD) : List UInt8 := ((encKey r.key ++ be 8 (u64 r.val)) ++ [UInt8.ofNat r.note.size]) ++ r.note.data.toList
def encKid (k : KidD) : List UInt8 := encKey k.least ++ [UInt8.ofNat k.page.toNat]
theorem encKey_len (k : KeyD) : (encKey k).length = 3 := by simp [encKey, length_be]
theorem Row.own {w : World} {g B : Nat} {l : List UInt8} (h : Row 5 w g l) (hB : B ≤ g) (hm : l.length ≤ maxLen) : Own w B (.slice (some ⟨g, 0, none⟩) l.length l.length) l :=
 ⟨by rw [length_vals, Nat.mul_one], .inr ⟨g, l.length, (vals l).toArray, rfl, hB, h, Nat.le_refl _, hm, by simp [length_vals], by rw [Nat.mul_one]; exact List.take_of_length_le (by rw [length_vals]; exact Nat.le_refl _)⟩⟩
theorem ofNat_int {t : Int} (h0 : 0 ≤ t) (h1 : t < 256) : ((UInt8.ofNat t.toNat).toNat : Int) = t := by
 simp; omega
theorem made1 (w : World) (x : UInt8) : Row 5 (w.alloc (.cells #[.int .u8 (x.toNat : Int)] 5)) w.heap.size [x] := heap_alloc_new _ _
def BytesPost (w : World) (n : Nat) (l : List UInt8) (e : Ending) (w' : World) : Prop := ∃ q c, e = .returned (.slice q n c) ∧ Own w' w.heap.size (.slice q n c) l ∧ Below w.heap.size w w'
set_option maxRecDepth 100000 in
set_option maxHeartbeats 1000000 in
theorem keyBytes_any (t id : Int) (w : World) (h0 : 0 ≤ t) (h1 : t < 256) (hi0 : 0 ≤ id) (hi1 : id < 65536) : Calls Tryz.prog 155 #[.agg #[.int .i64 t, .int .u16 id]] w (BytesPost w 3 (encKey ⟨t, id⟩)) := by
 obtain ⟨W, hW⟩ : ∃ W, w.alloc (.cells #[.int .i64 t, .int .u16 id] 66) = W := ⟨_, rfl⟩; have hbx := lh (one_box hW); have c0 := hbx.out.2.1.cell 0 rfl; have c1 := hbx.out.2.1.cell 1 rfl; have hx := lh (ofNat_int h0 h1); have hr := lh (made1 W (UInt8.ofNat t.toNat)); rw [hx.out] at hr; obtain ⟨W2, hW2⟩ : ∃ W2, W.alloc (.cells #[.int .u8 t] 5) = W2 := ⟨_, rfl⟩; have hb2 := lh (one_box hW2); have hr2 : Hid (Row 5 W2 W.heap.size [UInt8.ofNat t.toNat]) := by have h := hr.out; rw [hW2] at h; exact h
 have hd1 := (hbx.out.2.1.below hb2.out.1 (Nat.le_refl _)).cell 1 rfl; have hp := lh (put16 (some ⟨W.heap.size, 0, none⟩) 1 1 id [UInt8.ofNat t.toNat] W2 (hr2.out.holds 1) (by decide) hi0 hi1); clear hr
 go_enter Tryz.func155, Tryz.ntmps155
 go_wp2_with fail
 refine hp.out.mono ?_; clear hp hW2; rintro e w3 ⟨rfl, hrow, hb3⟩; have hrow' := lh hrow; have hd := lh (hbx.out.1.trans ((hb2.out.1.trans (hb3.mono hb2.out.1.size)).mono hbx.out.1.size)); have hsz : Hid (w.heap.size ≤ W2.heap.size) := Nat.le_trans hbx.out.1.size hb2.out.1.size; clear hrow hb3; go_wp2; go_ret; have ho := Row.own hrow'.out hsz.out (by unfold maxLen; simp [length_be]); rw [show ([UInt8.ofNat t.toNat] ++ be 2 id.toNat).length = 3 by simp [length_be]] at ho; exact ⟨_, _, rfl, ho, hd.out⟩
end Go.Proofs.YtocekhckmpkbmaaGreat
namespace Go.Proofs.YtocekhckmpkbmaaGreat
open Go.RowKit
theorem u64_wrap (v : Int) : IntKind.u64.wrap v = (u64 v : Int) := by
 unfold u64; rw [Int.toNat_of_nonneg (Int.emod_nonneg _ (by decide))]; rfl
theorem strCells_vals (s : ByteArray) : Lib.strCells s = vals s.data.toList := rfl
theorem Own.up {w w' : World} {base : Nat} {q0 : Option Addr} {n0 c0 : Nat} {l : List UInt8} {w0 : World} (h : Own w base (.slice q0 n0 c0) l) (hg : w.grownBy w' (blockOf q0)) (hb : Below w0.heap.size w0 w) (hB : w0.heap.size ≤ base) : Below w0.heap.size w0 w' :=
 hb.trans (grown_belowN hg hb.size fun k hk => by
  cases q0 with
  | none => cases hk
  | some a => cases hk; exact Nat.le_trans hB (h.holds.2.2 a rfl).1)
theorem Own.mono {w : World} {b b' : Nat} {v : Value} {l : List UInt8} (h : Own w b v l) (hb : b' ≤ b) : Own w b' v l := by
 obtain ⟨hlen, hr | ⟨g, cap, cur, he, hg, r⟩⟩ := h
 · exact ⟨hlen, .inl hr⟩
 · exact ⟨hlen, .inr ⟨g, cap, cur, he, Nat.le_trans hb hg, r⟩⟩
set_option maxRecDepth 100000 in
set_option maxHeartbeats 2000000 in
theorem rowBytes_any (t id v : Int) (s : ByteArray) (w : World) (h0 : 0 ≤ t) (h1 : t < 256) (hi0 : 0 ≤ id) (hi1 : id < 65536) (h8 : s.size ≤ 8) :
 Calls Tryz.prog 145 #[.agg #[.int .i64 t, .int .u16 id, .int .i64 v, .string s]] w (BytesPost w (12 + s.size) (encRow ⟨⟨t, id⟩, v, s⟩)) := by
 obtain ⟨W, hW⟩ : ∃ W, w.alloc (.cells #[.int .i64 t, .int .u16 id, .int .i64 v, .string s] 68) = W := ⟨_, rfl⟩; have hbx := lh (one_box hW); have c0 := hbx.out.2.1.cell 0 rfl; have c1 := hbx.out.2.1.cell 1 rfl; have c2 := hbx.out.2.1.cell 2 rfl; have hkb := lh (fun u => keyBytes_any t id u h0 h1 hi0 hi1); have hu := u64_wrap v; have hu0 : (0 : Int) ≤ (u64 v : Int) := Int.natCast_nonneg _
 go_enter Tryz.func145, Tryz.ntmps145
 go_wp2; clear hW
 go_region_held3 (fun u => u.cell? ⟨w.heap.size, 0, none⟩ = some (.int .i64 t) ∧ u.cell? ⟨w.heap.size, 1, none⟩ = some (.int .u16 id) ∧ u.cell? ⟨w.heap.size, 2, none⟩ = some (.int .i64 v) ∧ Below W.heap.size W u)
  (first | exact ⟨c0, c1, c2, below_drew _⟩ | (go_split_ands; exact ⟨cell_keeps hb6.out (Nat.le_refl _) (by assumption), cell_keeps hb6.out (Nat.le_refl _) (by assumption), cell_keeps hb6.out (Nat.le_refl _) (by assumption), below_step hb6.out (by assumption)⟩))
  (first
    | (go_at_call 155; refine (hkb.out _).mono ?_; rintro e u1 ⟨q1, k1, rfl, ho1, hb6'⟩; have hb6 := lh hb6'; have ho := lh ho1; have hv1 := lh (below_step hb6' (show Below W.heap.size W _ by go_split_ands; first | assumption | exact below_drew _)); clear hb6' ho1)
    | (go_at_call 93; refine (put64 q1 3 k1 (u64 v : Int) (encKey ⟨t, id⟩) _ ho.out.holds.1 (by decide) (Int.natCast_nonneg _)).mono ?_; rintro e u2 ⟨rfl, hr1, hb6'⟩; have hb6 := lh hb6'; have hr := lh hr1; clear hb6' hr1))
 have hv : Hid (Below W.heap.size W u2) := by
  show Below _ _ _
  go_split_ands
  assumption
 have c3 := (hbx.out.2.1.below hv.out (Nat.le_refl _)).cell 3 rfl; clear c0 c1 c2 hu hu0 hkb
 have hown : Hid (Own u2 W.heap.size (.slice (some ⟨u1.heap.size, 0, none⟩) 11 11) (encKey ⟨t, id⟩ ++ be 8 (u64 v))) := by have h := Row.own (B := W.heap.size) hr.out hv1.out.size (by rw [List.length_append, encKey_len, length_be]; unfold maxLen; decide); rw [List.length_append, encKey_len, length_be] at h; exact h
 have hx : Hid (((UInt8.ofNat s.size).toNat : Int) = s.size) := by show _ = _; simp; omega
 have hm := lh (made1 u2 (UInt8.ofNat s.size)); rw [hx.out] at hm; obtain ⟨W2, hW2⟩ : ∃ W2, u2.alloc (.cells #[.int .u8 s.size] 5) = W2 := ⟨_, rfl⟩; have hb2 := lh (one_box hW2); have hm2 : Hid (Row 5 W2 u2.heap.size [UInt8.ofNat s.size]) := by have h := hm.out; rw [hW2] at h; exact h
 have hown2 := lh (hown.out.below hb2.out.1); have hv2 := lh (hv.out.trans (hb2.out.1.mono hv.out.size)); have hsz2 := lh hv2.out.size; obtain ⟨i0, hi, hz0, hz1, hz2⟩ := info_parts info5; clear hm
 go_wp2_with (first
  | (at_builtin
     refine wpList_append_bytes rfl (.tmp 11) (.tmp 16) rfl rfl rfl hown2.out (hm2.out.holds 1) (by decide) hsz2.out ?_; intro q3 c3' w3 h3 hg3; have ho3 := lh h3; have hb3 := lh (hown2.out.up (w0 := W) hg3 hv2.out (Nat.le_refl _)); have d3 := (hbx.out.2.1.below hb3.out (Nat.le_refl _)).cell 3 rfl; have hsz3 := lh hb3.out.size
     clear h3 hg3)
  | (at_builtin
     refine Lib.wpList_append_own_string _ rfl (.tmp 18) (.tmp 20) 36 9 rfl W.heap.size 5 i0 Tryz.underlying36 Tryz.underlying9 hi hz0 hz1 hz2 _ 12 (vals ((encKey ⟨t, id⟩ ++ be 8 (u64 v)) ++ [UInt8.ofNat s.size])) rfl ho3.out s rfl (by unfold maxLen; omega) (by omega) hsz3.out ?_; intro v4 w4 h4 hg4 _; rw [strCells_vals, ← vals_append] at h4; have ho4 := lh h4; have hg4' := lh hg4
     clear h4 hg4))
 have hlen : (encRow ⟨⟨t, id⟩, v, s⟩).length = 12 + s.size := by unfold encRow; rw [List.length_append, List.length_append, List.length_append, encKey_len, length_be, List.length_singleton, Array.length_toList]; rfl
 have hfin : Own w4 W.heap.size v4 (encRow ⟨⟨t, id⟩, v, s⟩) := by have h := ho4.out; unfold Own; rw [hlen]; exact h
 obtain ⟨q4, c4, rfl⟩ := hfin.shape; rw [hlen] at hfin ⊢; have hb4 := ho3.out.up (w0 := W) (by cases q3 <;> exact hg4'.out) hb3.out (Nat.le_refl _); have hfin' := lh hfin; have hb4' := lh hb4; clear hfin hb4 hlen; go_wp2; go_ret; exact ⟨q4, c4, rfl, hfin'.out.mono hbx.out.1.size, hbx.out.1.trans (hb4'.out.mono hbx.out.1.size)⟩
theorem run_append_oper {P : Program} {o : Oper} {a : Act} {w w' : World} {sl x : Operand} {t : TypeId} {v1 v2 v : Value} (ho : o.op = .call { callee := .builtin .append, args := #[sl, x], argTypes := #[t, t] }) (hs : a.eval sl = v1) (hx : a.eval x = v2)
 (h : (Builtin.append_ #[t, t] o.type #[v1, v2]).run P w = .ok v w') : (execOp a.eval o).run P w = .ok (.value v) w' := by
 unfold execOp; simp only [ho, resolve, invoke, builtin, Sem.run_bind, Sem.run_pure, Result.andThen_ok, List.map_toArray, List.map_cons, List.map_nil, hs, hx, h]
def KbS (W : World) (b : Nat) (t id p : Int) (u : World) : Prop := Boxed u b [.int .i64 t, .int .u16 id, .int .i64 p] ∧ Below W.heap.size W u
theorem KbS.on {W : World} {b : Nat} {t id p : Int} {u v : World} (h : KbS W b t id p u) (hb : Below u.heap.size u v) : KbS W b t id p v := ⟨h.1.below hb (Nat.le_refl _), below_step hb h.2⟩
theorem KbS.key {W : World} {b : Nat} {t id p : Int} {u : World} (h : KbS W b t id p u) : ∀ j x, ([.int .i64 t, .int .u16 id] : List Value)[j]? = some x → u.cell? ((⟨b, 0, none⟩ : Addr).add j) = some x := fun j x hj => h.1 j x (by
 match j, hj with
 | 0, hj => exact hj
 | 1, hj => exact hj
 | j + 2, hj => simp at hj)
def KbZ (W : World) (b : Nat) (t id p : Int) (v u : Value) (x : World) : Prop := ∃ q c r, v = .slice q 3 c ∧ u = .slice (some ⟨r, 0, none⟩) 1 1 ∧ Own x W.heap.size (.slice q 3 c) (encKey ⟨t, id⟩) ∧ Row 5 x r [UInt8.ofNat p.toNat] ∧ KbS W b t id p x
set_option maxRecDepth 100000 in
set_option maxHeartbeats 2000000 in
theorem kidBytes_any (t id p : Int) (w : World) (h0 : 0 ≤ t) (h1 : t < 256) (hi0 : 0 ≤ id) (hi1 : id < 65536) (hp0 : 0 ≤ p) (hp1 : p < 256) :
 Calls Tryz.prog 146 #[.agg #[.int .i64 t, .int .u16 id, .int .i64 p]] w (BytesPost w 4 (encKid ⟨⟨t, id⟩, p⟩)) := by
 obtain ⟨W, hW⟩ : ∃ W, w.alloc (.cells #[.int .i64 t, .int .u16 id, .int .i64 p] 100) = W := ⟨_, rfl⟩; have hbx := lh (one_box hW); have hs3 := sizeKey t id; have hx : Hid (((UInt8.ofNat p.toNat).toNat : Int) = p) := lh (ofNat_int hp0 hp1); have hwp : IntKind.u8.wrap p = p := by show p % 256 = p; omega
 have hkb : ∀ u, Calls Tryz.prog 155 #[.agg #[.int .i64 t, .int .u16 id]] u (BytesPost u 3 (encKey ⟨t, id⟩)) := fun u => keyBytes_any t id u h0 h1 hi0 hi1
 have mk : ∀ u : World, Row 5 (u.alloc (.cells #[.int .u8 p] 5)) u.heap.size [UInt8.ofNat p.toNat] := fun u => by have h := made1 u (UInt8.ofNat p.toNat); rw [hx.out] at h; exact h
 go_enter Tryz.func146, Tryz.ntmps146
 go_wp2; have hS0 : KbS W w.heap.size t id p W.drew := ⟨hbx.out.2.1.below (below_drew W) (Nat.le_refl _), below_drew W⟩; refine wp_region_held (S := KbS W w.heap.size t id p) (by kernel_rfl) ?_; change wpAnyH _ _ _ _ _ _ _ _ (World.drew W); refine tg 0 3 (.pointer (some ⟨w.heap.size, 0, none⟩)) hS0 ?_; go_frame; refine held_tk (i := 1) (dst := some 4) rfl rfl (y_load_agg 66 (.tmp 3) rfl rfl rfl (fun W hW => run_loadVar_at Tryz.underlying66 rfl hs3 _ hW.key)) hS0 ?_; go_frame; refine tg 3 6 (.pointer (some ⟨w.heap.size, 2, none⟩)) hS0 ?_; go_frame; refine held_tk (i := 4) (dst := some 7) (v := .int .i64 p) rfl rfl (.inl ⟨rfl, fun W hW => by have c2 := hW.1.cell 2 rfl; go_simp⟩) hS0 ?_; go_frame; refine tg 5 8 (.int .u8 p) hS0 ?_; go_frame; clear hW; refine held_pair (i := 2) (j := 6) (di := some 5) (dj := some 9) (Z := KbZ W w.heap.size t id p) rfl rfl rfl rfl (by kernel_rfl) (by kernel_rfl) (by kernel_rfl) rfl rfl rfl (fun _ => rfl) (fun _ => rfl) (fun _ _ => rfl) (by go_simp) (hkb _) ?_ ?_ ?_
 · rintro e u ⟨q, c, rfl, ho, hb⟩; have hS1 := hS0.on hb; refine ⟨_, .slice (some ⟨u.heap.size, 0, none⟩) 1 1, u.alloc (.cells #[.int .u8 p] 5), rfl, hS1, by go_simp, hS1.on ((Below.refl _ _).alloc (Nat.le_refl _) _), q, c, u.heap.size, rfl, rfl, ?_, mk u, hS1.on ((Below.refl _ _).alloc (Nat.le_refl _) _)⟩; exact (ho.below ((Below.refl _ _).alloc (Nat.le_refl _) _)).mono (Nat.le_refl _)
 · refine ⟨.slice (some ⟨W.drew.heap.size, 0, none⟩) 1 1, W.drew.alloc (.cells #[.int .u8 p] 5), _, by go_simp, hS0.on ((Below.refl _ _).alloc (Nat.le_refl _) _), by go_simp, hkb _, ?_⟩; rintro e u ⟨q, c, rfl, ho, hb⟩; have hS1 := (hS0.on ((Below.refl _ _).alloc (Nat.le_refl _) (.cells #[.int .u8 p] 5))).on hb; refine ⟨_, rfl, hS1, q, c, W.drew.heap.size, rfl, rfl, ho.mono (by show W.heap.size ≤ _; simp), ?_, hS1⟩; exact (mk W.drew).block (hb.block _ (by simp))
 · rintro v u X ⟨q, c, r, rfl, rfl, ho, hr, hS1⟩
   go_frame; obtain ⟨q', c', w', hrun, h1', h2'⟩ := run_append_bytes (m := 1) 36 ho (hr.holds 1) (by decide) hS1.2.size; have hb7 : Below W.heap.size W w' := ho.up h2' hS1.2 (Nat.le_refl _); have hS2 : KbS W w.heap.size t id p w' := ⟨hbx.out.2.1.below hb7 (Nat.le_refl _), hb7⟩; refine held_value (i := 7) (dst := some 10) (v := .slice q' 4 c') (w' := w') rfl rfl (by kernel_rfl) rfl (run_append_oper (sl := .tmp 5) (x := .tmp 9) rfl rfl rfl hrun) hS2 ?_; go_frame; refine tg 8 2 (.slice q' 4 c') hS2 ?_; go_frame; refine wpAnyH_done (by kernel_rfl) ?_ _; have ho7 := lh h1'; clear hrun h1' h2' hkb mk hS0 hS1; go_wp2; go_ret; exact ⟨q', c', rfl, ho7.out.mono hbx.out.1.size, hbx.out.1.trans (hb7.mono hbx.out.1.size)⟩
end Go.Proofs.YtocekhckmpkbmaaGreat
namespace Go.Proofs.YtocekhckmpkbmaaGreat
open Go.RowKit
theorem run_store_op {P : Program} {o : Oper} {a : Act} {w w' : World} {ty : TypeId} {x y : Operand} {ad : Addr} {v : Value} (ho : o.op = .store ty x y) (hx : a.eval x = .pointer (some ad)) (hy : a.eval y = v) (h : (storeVar ty ad v).run P w = .ok () w') : (execOp a.eval o).run P w = .ok .skip w' := by
 subst hy; unfold execOp; simp only [ho, hx, Instr.storeAt, Instr.sureAddr, Sem.run_bind, Sem.run_pure, Result.andThen_ok, h]
/-- the state of a reader: what is ahead, and what it is stuck with -/
structure St where
 l : List UInt8
 e : Int
def St.next (k : Int) (s : St) : St := ⟨nextL k s.l s.e, nextE k s.l s.e⟩
def St.num (k : Int) (s : St) : Int := numV k s.l s.e
def St.raw (k : Int) (s : St) : List UInt8 := rawL k s.l s.e
def RdrS (w : World) (g : Nat) (d : Option Nat) (s : St) : Prop := Rdr w g d s.l s.e
theorem RdrS.below {w w' : World} {g : Nat} {d : Option Nat} {s : St} (r : RdrS w g d s) (hb : Below w.heap.size w w') : RdrS w' g d s := Rdr.below r hb
theorem RdrS.lt {w : World} {g : Nat} {d : Option Nat} {s : St} (r : RdrS w g d s) : g < w.heap.size := by obtain ⟨_, _, _, hr, _⟩ := r; exact hr.lt
theorem RdrS.keep {w w' : World} {g h : Nat} {d : Option Nat} {s : St} (r : RdrS w g d s) (hg : w.grownBy w' (some h)) (h1 : h ≠ g) (h2 : d ≠ some h) : RdrS w' g d s := Rdr.keep r hg h1 h2
theorem RdrS.src {w : World} {g : Nat} {d : Option Nat} {s : St} (r : RdrS w g d s) : ∀ x, d = some x → x < w.heap.size := by obtain ⟨_, _, _, _, _, _, _, _, _, h⟩ := r; exact h
/-- what a reading leaves -/
def RP (v : Value) (w : World) (g : Nat) (d : Option Nat) (s' : St) (e : Ending) (w' : World) : Prop := e = .returned v ∧ w.grownBy w' (some g) ∧ RdrS w' g d s'
theorem rd8 (g : Nat) (d : Option Nat) (s : St) (w : World) (h : RdrS w g d s) : Calls Tryz.prog 73 #[.pointer (some ⟨g, 0, none⟩)] w (RP (.int .u8 (s.num 1)) w g d (s.next 1)) := u8_any g d s.e s.l w h
theorem rd16 (g : Nat) (d : Option Nat) (s : St) (w : World) (h : RdrS w g d s) : Calls Tryz.prog 152 #[.pointer (some ⟨g, 0, none⟩)] w (RP (.int .u16 (s.num 2)) w g d (s.next 2)) := u16_any g d s.e s.l w h
theorem rd64 (g : Nat) (d : Option Nat) (s : St) (w : World) (h : RdrS w g d s) : Calls Tryz.prog 74 #[.pointer (some ⟨g, 0, none⟩)] w (RP (.int .u64 (s.num 8)) w g d (s.next 8)) := u64_any g d s.e s.l w h
theorem rdErr (g : Nat) (d : Option Nat) (s : St) (w : World) (h : RdrS w g d s) : Calls Tryz.prog 77 #[.pointer (some ⟨g, 0, none⟩)] w (fun e w' => e = .returned (.int .i64 s.e) ∧ w = w') := err_any g d s.e s.l w h
theorem rdLeft (g : Nat) (d : Option Nat) (s : St) (w : World) (h : RdrS w g d s) : Calls Tryz.prog 78 #[.pointer (some ⟨g, 0, none⟩)] w (fun e w' => e = .returned (.int .i64 (s.l.length : Int)) ∧ w = w') := left_any g d s.e s.l w h
def keyD (s : St) : KeyD := ⟨s.num 1, (s.next 1).num 2⟩
def keyS (s : St) : St := (s.next 1).next 2
theorem keyD_ok (s : St) : 0 ≤ (keyD s).t ∧ (keyD s).t < 256 ∧ 0 ≤ (keyD s).id ∧ (keyD s).id < 65536 := by
 have h1 := numV1 s.l s.e; have h2 := numV2 (s.next 1).l (s.next 1).e; exact ⟨h1.1, h1.2, h2.1, h2.2⟩
/-- the reader's box, the key's cells, and what lies between -/
structure KyS (w : World) (b g : Nat) (d : Option Nat) (u : World) : Prop where
 box : Boxed u b [.pointer (some ⟨g, 0, none⟩)]
 res : ∃ vs, vs.length = 2 ∧ RowV 66 u (b + 1) vs
 gr : w.grownBy u (some g)
theorem KyS.on {W : World} {b g : Nat} {d : Option Nat} {u v : World} (h : KyS W b g d u) (hg : u.grownBy v (some g)) (hb : g < b) : KyS W b g d v :=
 ⟨h.box.gr hg (by omega), by obtain ⟨vs, h1, h2⟩ := h.res; exact ⟨vs, h1, h2.gr hg (by omega)⟩, h.gr.trans hg⟩
set_option maxRecDepth 100000 in
set_option maxHeartbeats 2000000 in
theorem key_any (g : Nat) (d : Option Nat) (s : St) (w : World) (h : RdrS w g d s) :
 Calls Tryz.prog 158 #[.agg #[.pointer (some ⟨g, 0, none⟩)]] w (RP (.agg #[.int .i64 (keyD s).t, .int .u16 (keyD s).id]) w g d (keyS s)) := by
 obtain ⟨W, hW⟩ : ∃ W, (w.alloc (.cells #[.pointer (some ⟨g, 0, none⟩)] 190)).alloc (.cells #[.int .i64 0, .int .u16 0] 66) = W := ⟨_, rfl⟩; have hbx := lh (two_boxes hW)
 have hres : RowV 66 W (w.heap.size + 1) [.int .i64 0, .int .u16 0] := by have h0 := RowV.made (T := 66) (w.alloc (.cells #[.pointer (some ⟨g, 0, none⟩)] 190)) [.int .i64 0, .int .u16 0]; rw [← hW]; simpa using h0
 have hg := h.lt; have hsrc := lh h.src; have hr := lh (h.below hbx.out.1); obtain ⟨k0, k1, k2, k3⟩ := keyD_ok s
 go_enter Tryz.func158, Tryz.ntmps158
 go_wp2; clear hW; have hS0 : KyS w w.heap.size g d W.drew := ⟨hbx.out.2.1.below (below_drew W) (Nat.le_refl _), ⟨_, rfl, hres.below (below_drew W)⟩, below_grown (hbx.out.1.trans ((below_drew W).mono hbx.out.1.size)) _⟩; refine wp_region_held (S := KyS w w.heap.size g d) (by kernel_rfl) ?_; change wpAnyH _ _ _ _ _ _ _ _ (World.drew W); refine tg 0 3 (.pointer (some ⟨w.heap.size, 0, none⟩)) hS0 ?_; go_frame; refine held_tk (i := 1) (dst := some 4) (v := .pointer (some ⟨g, 0, none⟩)) rfl rfl (.inl ⟨rfl, fun W hW => by have c0 := hW.box.cell 0 rfl; go_simp⟩) hS0 ?_; go_frame; refine tg 4 7 (.pointer (some ⟨w.heap.size, 0, none⟩)) hS0 ?_; go_frame; refine held_tk (i := 5) (dst := some 8) (v := .pointer (some ⟨g, 0, none⟩)) rfl rfl (.inl ⟨rfl, fun W hW => by have c0 := hW.box.cell 0 rfl; go_simp⟩) hS0 ?_; go_frame; refine held_call (i := 2) (dst := some 5) rfl rfl (by kernel_rfl) rfl (by go_simp) (rd8 g d s _ (hr.out.below (below_drew W))) ?_
 rintro e u1 ⟨rfl, hg1, hr1⟩; have hS1 := hS0.on hg1 hg; refine ⟨_, rfl, hS1, ?_⟩; go_frame; have w1 : IntKind.i64.wrap (s.num 1) = (keyD s).t := IntWalk.i64_in _ (by have : (keyD s).t = s.num 1 := rfl; omega); refine tg 3 6 (.int .i64 (keyD s).t) hS1 ?_; go_frame; refine held_call (i := 6) (dst := some 9) rfl rfl (by kernel_rfl) rfl (by go_simp) (rd16 g d (s.next 1) _ hr1) ?_; rintro e u2 ⟨rfl, hg2, hr2⟩; have hS2 := hS1.on hg2 hg; refine ⟨_, rfl, hS2, ?_⟩; go_frame; refine held_tk (i := 7) (dst := some 10) (v := .agg #[.int .i64 (keyD s).t, .int .u16 (keyD s).id]) rfl rfl (.inl ⟨rfl, fun W hW => by go_simp; rfl⟩) hS2 ?_; go_frame; obtain ⟨vs, hvl, hvr⟩ := hS2.res; obtain ⟨w7, hst, h7, hg7⟩ := run_storeVar_at (P := Tryz.prog) (ty := 66) (o := 0) (vs := [.int .i64 (keyD s).t, .int .u16 (keyD s).id]) hvr (sizeKey _ _) (by rw [hvl]; exact Nat.le_refl _) (KeyD.one _); rw [splice_all _ _ (by rw [hvl]; rfl)] at h7
 have hne : w.heap.size + 1 ≠ g := by omega
 have hr7 : RdrS w7 g d (keyS s) := hr2.keep hg7 hne (fun e => by have := hsrc.out _ e; omega); have hS7 : KyS w w.heap.size g d w7 := ⟨hS2.box.gr hg7 (by omega), ⟨_, rfl, h7⟩, Gr.own hS2.gr hg7 (by omega)⟩; refine held_skip (i := 8) (dst := none) (w' := w7) rfl rfl (by kernel_rfl) rfl (run_store_op rfl rfl rfl hst) hS7 ?_; go_frame; refine wpAnyH_done (by kernel_rfl) ?_ _; have hr7' := lh hr7; have hgr := lh hS7.gr; have s7 : RowV 66 w7 (w.heap.size + 1) [.int .i64 (keyD s).t, .int .u16 (keyD s).id] := h7; have m0 := s7.cell 0; have m1 := s7.cell 1; simp only [List.getElem?_cons_zero, List.getElem?_cons_succ] at m0 m1; clear hst h7 hg7 hS7 hS2 hS1 hS0 hr7 w1 hvr hres; go_wp2; exact bodyPost_ret (v := .agg #[.int .i64 (keyD s).t, .int .u16 (keyD s).id]) (by simp [results, Tryz.results158, go_sem, m0, m1]) rfl ⟨rfl, hgr.out, hr7'.out⟩
end Go.Proofs.YtocekhckmpkbmaaGreat
namespace Go.Proofs.YtocekhckmpkbmaaGreat
open Go.RowKit
def zeroR : RowD := ⟨⟨0, 0⟩, 0, ⟨#[]⟩⟩
def rowV (r : RowD) : Value := .agg #[.int .i64 r.key.t, .int .u16 r.key.id, .int .i64 r.val, .string r.note]
def valS (s : St) : Int := IntKind.i64.wrap ((keyS s).num 8)
def lenS (s : St) : Int := ((keyS s).next 8).num 1
def lenT (s : St) : St := ((keyS s).next 8).next 1
/-- what row gives: the row, its error, and what is ahead then -/
def rowP (s : St) : RowD × Int × St :=
 if tabB (keyD s).t = true then
  (if lenS s ≤ 8 then
    (if ((lenT s).next (lenS s)).e = 0 then (⟨keyD s, valS s, ⟨((lenT s).raw (lenS s)).toArray⟩⟩, 0, (lenT s).next (lenS s))
    else (zeroR, ((lenT s).next (lenS s)).e, (lenT s).next (lenS s)))
  else (zeroR, 161, lenT s))
 else (zeroR, 161, keyS s)
def RowRd (s : St) (w : World) (g : Nat) (d : Option Nat) (e : Ending) (w' : World) : Prop :=
 ∃ r er s', rowP s = (r, er, s') ∧ e = .returned (.tuple #[rowV r, .int .i64 er]) ∧ w.grownBy w' (some g) ∧ RdrS w' g d s'
theorem conv_note {w : World} {q : Option Addr} {n c : Nat} {l : List UInt8} (h : Lib.HoldsBytes w (.slice q n c) l) : (convert 36 9 (.slice q n c)).run Tryz.prog w = .ok (.string ⟨l.toArray⟩) w := by
 obtain ⟨p, cap, he, h1, h2⟩ := h; cases he; cases q with
 | none => obtain rfl := h1 rfl; rw [run_convert_bytes_string (P := Tryz.prog) w 36 9 5 none _ c Tryz.underlying36 Tryz.underlying5 Tryz.underlying9]; rfl
 | some a => exact run_convert_bytes_back (P := Tryz.prog) w 36 9 5 a c l Tryz.underlying36 Tryz.underlying5 Tryz.underlying9 (fun j hj => h2 a rfl j _ (List.getElem?_eq_getElem hj))
set_option maxRecDepth 100000 in
set_option maxHeartbeats 4000000 in
theorem row_rd (g : Nat) (d : Option Nat) (s : St) (w : World) (h : RdrS w g d s) :
 Calls Tryz.prog 151 #[.agg #[.pointer (some ⟨g, 0, none⟩)]] w (RowRd s w g d) := by
 obtain ⟨W, hW⟩ : ∃ W, (w.alloc (.cells #[.pointer (some ⟨g, 0, none⟩)] 190)).alloc (.cells #[.int .i64 0, .int .u16 0, .int .i64 0, .string ⟨#[]⟩] 68) = W := ⟨_, rfl⟩; have hbx := lh (two_boxes hW)
 have hres : Hid (RowV 68 W (w.heap.size + 1) [.int .i64 0, .int .u16 0, .int .i64 0, .string ⟨#[]⟩]) := by have h0 := RowV.made (T := 68) (w.alloc (.cells #[.pointer (some ⟨g, 0, none⟩)] 190)) [.int .i64 0, .int .u16 0, .int .i64 0, .string ⟨#[]⟩]; show RowV _ _ _ _; rw [← hW]; simpa using h0
 have hg := h.lt; have hsrc := lh h.src; have hr := lh (h.below hbx.out.1); have hs1 := sizeRd (.pointer (some ⟨g, 0, none⟩)); have hs0 := sizeRow 0 0 0 ⟨#[]⟩; have z1 : ∀ v ∈ ([.int .i64 0, .int .u16 0, .int .i64 0, .string ⟨#[]⟩] : List Value), v.oneCell' = true := RowD.one zeroR; clear h
 go_enter Tryz.func151, Tryz.ntmps151
 go_wp2_with (first
  | (with_reducible refine wpList_load_at rfl 190 (.tmp 1) rfl Tryz.underlying190 rfl hs1 rfl hbx.out.2.1.all ?_))
 clear hW; refine (key_any g d s W hr.out).mono ?_; rintro e w1 ⟨rfl, hg1, hr1⟩; obtain ⟨k0, k1, k2, k3⟩ := keyD_ok s; obtain ⟨⟨kt, ki⟩, hk⟩ : ∃ k, keyD s = k := ⟨_, rfl⟩; rw [hk] at k0 k1 k2 k3; rw [hk]; have hk' := lh hk; have b1 := lh (hbx.out.2.1.gr hg1 (by omega)); have s1 := lh (hres.out.gr hg1 (by omega)); have gr1 := lh (Gr.after hbx.out.1 hg1); have r1 := lh hr1; clear hk hg1 hr1 hres hr; obtain ⟨W2, hW2⟩ : ∃ W2, w1.alloc (.cells #[.int .i64 kt, .int .u16 ki] 66) = W2 := ⟨_, rfl⟩; have hb2 := lh (one_box hW2); have hs3 := sizeKey kt ki
 go_wp2_with (first
  | (with_reducible refine wpList_load_at rfl 66 (.tmp 4) rfl Tryz.underlying66 rfl hs3 rfl hb2.out.2.1.all ?_))
 clear hW2; refine (tabled_any kt ki W2).mono ?_; rintro e w3 ⟨rfl, hb3⟩; have hu3 := lh (hb2.out.1.trans (hb3.mono hb2.out.1.size)); have b3 := lh (b1.out.below hu3.out (Nat.le_refl _)); have s3 := lh (s1.out.below hu3.out); have gr3 := lh (Gr.then gr1.out hu3.out); have r3 := lh (r1.out.below hu3.out)
 have hlow : w.heap.size + 2 ≤ w1.heap.size := by have h1 := s1.out.lt; omega
 have y3 := lh ((hb2.out.2.1.below hb3 (Nat.le_refl _))); clear hb3; obtain ⟨b, hb⟩ : ∃ b, tabB kt = b := ⟨_, rfl⟩; rw [hb]; have hb' := lh hb; clear hb; cases b with
 | false =>
   go_wp2_with (first
    | ((with_reducible refine wpList_store_at rfl 68 (.tmp 2) (.tmp 14) rfl (o := 0) rfl rfl s3.out hs0 (Nat.le_refl _) z1 ?_)
       intro w9 h9 hg9; have q9 := lh h9; have hg9' := lh hg9
       clear h9 hg9))
   have s9 : RowV 68 w9 (w.heap.size + 1) [.int .i64 0, .int .u16 0, .int .i64 0, .string ⟨#[]⟩] := q9.out; have m0 := s9.cell 0; have m1 := s9.cell 1; have m2 := s9.cell 2; have m3 := s9.cell 3; simp only [List.getElem?_cons_zero, List.getElem?_cons_succ] at m0 m1 m2 m3; refine bodyPost_ret (v := .tuple #[rowV zeroR, .int .i64 161]) (by simp [results, Tryz.results151, go_sem, m0, m1, m2, m3, rowV, zeroR]) rfl ?_; refine ⟨zeroR, 161, keyS s, ?_, rfl, Gr.own gr3.out hg9'.out (by omega), r3.out.keep hg9'.out (by omega) (fun e => by have := hsrc.out _ e; omega)⟩; unfold rowP; rw [if_neg]; rw [hk'.out]; show ¬ tabB kt = true; rw [hb'.out]; simp
 | true =>
   have c3 := b3.out.cell 0 rfl; obtain ⟨vv, hvv⟩ : ∃ v, IntKind.i64.wrap ((keyS s).num 8) = v := ⟨_, rfl⟩
   go_wp2_with fail
   refine (rd64 g d (keyS s) w3 r3.out).mono ?_; rintro e w4 ⟨rfl, hg4, hr4⟩; have b4 := lh (b3.out.gr hg4 (by omega)); have s4 := lh (s3.out.gr hg4 (by omega)); have y4 := lh (y3.out.gr hg4 (by omega)); have gr4 := lh (gr3.out.trans hg4); have r4 := lh hr4; have c4 := b4.out.cell 0 rfl; clear hg4 hr4 c3
   go_wp2_with fail
   refine (rd8 g d ((keyS s).next 8) w4 r4.out).mono ?_; rintro e w5 ⟨rfl, hg5, hr5⟩; have b5 := lh (b4.out.gr hg5 (by omega)); have s5 := lh (s4.out.gr hg5 (by omega)); have y5 := lh (y4.out.gr hg5 (by omega)); have gr5 := lh (gr4.out.trans hg5); have r5 : Hid (RdrS w5 g d (lenT s)) := hr5; have c5 := b5.out.cell 0 rfl; have hz := numV1 ((keyS s).next 8).l ((keyS s).next 8).e; obtain ⟨z, hzz⟩ : ∃ z, ((keyS s).next 8).num 1 = z := ⟨_, rfl⟩; have hz2 : 0 ≤ z ∧ z < 256 := by rw [← hzz]; exact hz
   obtain ⟨z0, z2⟩ := hz2; rw [hzz]; have hzl : Hid (lenS s = z) := hzz; have hv' : Hid (valS s = vv) := hvv; clear hg5 hr5 c4 hz hzz hvv
   by_cases h8 : 8 < z
   · have hrp : Hid (rowP s = (zeroR, 161, lenT s)) := by
      show rowP s = _; unfold rowP; rw [if_pos (by rw [hk'.out]; exact hb'.out), if_neg (by rw [hzl.out]; omega)]
     go_wp2_with (first
      | ((with_reducible refine wpList_store_at rfl 68 (.tmp 2) (.tmp 24) rfl (o := 0) rfl rfl s5.out hs0 (Nat.le_refl _) z1 ?_)
         intro w9 h9 hg9; have q9 := lh h9; have hg9' := lh hg9
         clear h9 hg9))
     have s9 : RowV 68 w9 (w.heap.size + 1) [.int .i64 0, .int .u16 0, .int .i64 0, .string ⟨#[]⟩] := q9.out; have m0 := s9.cell 0; have m1 := s9.cell 1; have m2 := s9.cell 2; have m3 := s9.cell 3; simp only [List.getElem?_cons_zero, List.getElem?_cons_succ] at m0 m1 m2 m3; refine bodyPost_ret (v := .tuple #[rowV zeroR, .int .i64 161]) (by simp [results, Tryz.results151, go_sem, m0, m1, m2, m3, rowV, zeroR]) rfl ?_; exact ⟨zeroR, 161, lenT s, hrp.out, rfl, Gr.own gr5.out hg9'.out (by omega), r5.out.keep hg9'.out (by omega) (fun e => by have := hsrc.out _ e; omega)⟩
   · go_wp2_with fail
     refine (raw_any g d z (lenT s).e (lenT s).l w5 r5.out).mono ?_; rintro e w6 ⟨nq, nc, rfl, hnew, hg6, hr6⟩; have hcv := conv_note hnew.1; have b6 := lh (b5.out.gr hg6 (by omega)); have s6 := lh (s5.out.gr hg6 (by omega)); have y6 := lh (y5.out.gr hg6 (by omega)); have gr6 := lh (gr5.out.trans hg6); have r6 : Hid (RdrS w6 g d ((lenT s).next z)) := hr6; have c6 := b6.out.cell 0 rfl; have hnl : Hid (rawL z (lenT s).l (lenT s).e = (lenT s).raw z) := lh rfl; obtain ⟨N, hN⟩ : ∃ N, rawL z (lenT s).l (lenT s).e = N := ⟨_, rfl⟩; rw [hN] at hcv hnew ⊢; have hN' := lh hN; clear hN hnew hg6 hr6 c5
     go_wp2_with fail
     refine (rdErr g d ((lenT s).next z) w6 r6.out).mono ?_; rintro e w6' ⟨rfl, rfl⟩; obtain ⟨er, her⟩ : ∃ x, ((lenT s).next z).e = x := ⟨_, rfl⟩; rw [her]; have her' := lh her; clear her hcv c6
     by_cases hz7 : er = 0
     · subst hz7; have hrp : Hid (rowP s = (⟨⟨kt, ki⟩, vv, ⟨N.toArray⟩⟩, 0, (lenT s).next z)) := by show rowP s = _; unfold rowP; rw [if_pos (by rw [hk'.out]; exact hb'.out), if_pos (by rw [hzl.out]; omega), hzl.out, if_pos her'.out, hk'.out, hv'.out, ← hnl.out, hN'.out]
       have z5 : ∀ v ∈ ([.int .i64 kt, .int .u16 ki, .int .i64 vv, .string ⟨N.toArray⟩] : List Value), v.oneCell' = true := RowD.one ⟨⟨kt, ki⟩, vv, ⟨N.toArray⟩⟩; have hs5 := sizeRow kt ki vv ⟨N.toArray⟩
       go_wp2_with (first
        | (with_reducible refine wpList_load_at rfl 66 (.tmp 4) rfl Tryz.underlying66 rfl hs3 rfl y6.out.all ?_)
        | ((with_reducible refine wpList_store_at rfl 68 (.tmp 2) (.tmp 41) rfl (o := 0) (vs := [.int .i64 kt, .int .u16 ki, .int .i64 vv, .string ⟨N.toArray⟩]) rfl rfl s6.out hs5 (Nat.le_refl _) z5 ?_)
           intro w9 h9 hg9; have q9 := lh h9; have hg9' := lh hg9
           clear h9 hg9))
       have s9 : RowV 68 w9 (w.heap.size + 1) [.int .i64 kt, .int .u16 ki, .int .i64 vv, .string ⟨N.toArray⟩] := q9.out; have m0 := s9.cell 0; have m1 := s9.cell 1; have m2 := s9.cell 2; have m3 := s9.cell 3; simp only [List.getElem?_cons_zero, List.getElem?_cons_succ] at m0 m1 m2 m3; refine bodyPost_ret (v := .tuple #[rowV ⟨⟨kt, ki⟩, vv, ⟨N.toArray⟩⟩, .int .i64 0]) (by simp [results, Tryz.results151, go_sem, m0, m1, m2, m3, rowV]) rfl ?_; exact ⟨_, _, _, hrp.out, rfl, Gr.own gr6.out hg9'.out (by omega), r6.out.keep hg9'.out (by omega) (fun e => by have := hsrc.out _ e; omega)⟩
     · have hrp : Hid (rowP s = (zeroR, er, (lenT s).next z)) := by
        show rowP s = _; unfold rowP; rw [if_pos (by rw [hk'.out]; exact hb'.out), if_pos (by rw [hzl.out]; omega), hzl.out, her'.out, if_neg hz7]
       go_wp2_with (first
        | ((with_reducible refine wpList_store_at rfl 68 (.tmp 2) (.tmp 36) rfl (o := 0) rfl rfl s6.out hs0 (Nat.le_refl _) z1 ?_)
           intro w9 h9 hg9; have q9 := lh h9; have hg9' := lh hg9
           clear h9 hg9))
       have s9 : RowV 68 w9 (w.heap.size + 1) [.int .i64 0, .int .u16 0, .int .i64 0, .string ⟨#[]⟩] := q9.out; have m0 := s9.cell 0; have m1 := s9.cell 1; have m2 := s9.cell 2; have m3 := s9.cell 3; simp only [List.getElem?_cons_zero, List.getElem?_cons_succ] at m0 m1 m2 m3; refine bodyPost_ret (v := .tuple #[rowV zeroR, .int .i64 er]) (by simp [results, Tryz.results151, go_sem, m0, m1, m2, m3, rowV, zeroR]) rfl ?_; exact ⟨zeroR, er, _, hrp.out, rfl, Gr.own gr6.out hg9'.out (by omega), r6.out.keep hg9'.out (by omega) (fun e => by have := hsrc.out _ e; omega)⟩
end Go.Proofs.YtocekhckmpkbmaaGreat
namespace Go.Proofs.YtocekhckmpkbmaaGreat
open Go.RowKit
section
variable {P : Program} {ops : Array Oper} {Q : Exit → Act → World → Prop} {md : Region.Mode} {S : World → Prop}
end
def kidD (s : St) : KidD := ⟨keyD s, (keyS s).num 1⟩
def kidS (s : St) : St := (keyS s).next 1
structure KdS (w : World) (g : Nat) (u : World) : Prop where
 box : Boxed u w.heap.size [.pointer (some ⟨g, 0, none⟩)]
 res : ∃ vs, vs.length = 3 ∧ RowV 100 u (w.heap.size + 1) vs
 gr : w.grownBy u (some g)
theorem KdS.on {w : World} {g : Nat} {u v : World} (h : KdS w g u) (hg : u.grownBy v (some g)) (hb : g < w.heap.size) : KdS w g v :=
 ⟨h.box.gr hg (by omega), by obtain ⟨vs, h1, h2⟩ := h.res; exact ⟨vs, h1, h2.gr hg (by omega)⟩, h.gr.trans hg⟩
theorem KdS.below {w : World} {g : Nat} {u v : World} (h : KdS w g u) (hb : Below u.heap.size u v) : KdS w g v :=
 ⟨h.box.below hb (Nat.le_refl _), by obtain ⟨vs, h1, h2⟩ := h.res; exact ⟨vs, h1, h2.below hb⟩, Gr.then h.gr hb⟩
theorem KdS.own {w : World} {g c : Nat} {u v : World} (h : KdS w g u) (hg : u.grownBy v (some c)) (hc : w.heap.size + 2 ≤ c) : KdS w g v :=
 ⟨h.box.gr hg (by omega), by obtain ⟨vs, h1, h2⟩ := h.res; exact ⟨vs, h1, h2.gr hg (by omega)⟩, Gr.own h.gr hg (by omega)⟩
theorem KdS.far {w : World} {g : Nat} {u : World} (h : KdS w g u) : w.heap.size + 2 ≤ u.heap.size := by
 obtain ⟨vs, _, h2⟩ := h.res; have := h2.lt; omega
structure KeS (w : World) (g c : Nat) (d : Option Nat) (k : KidD) (s : St) (u : World) : Prop where
 kd : KdS w g u
 kid : RowV 100 u c k.cells
 rd : RdrS u g d s
theorem KeS.all {w : World} {g c : Nat} {d : Option Nat} {k : KidD} {s : St} {u : World} (h : KeS w g c d k s u) : ∀ j v, k.cells[j]? = some v → u.cell? ((⟨c, 0, none⟩ : Addr).add j) = some v := h.kid.part (pre := []) (rest := []) (by simp) rfl
end Go.Proofs.YtocekhckmpkbmaaGreat
namespace Go.Proofs.YtocekhckmpkbmaaGreat
open Go.RowKit
theorem rowP_ok {s s' : St} {r : RowD} (h : rowP s = (r, 0, s')) : RowOk r ∧ tabB r.key.t = true ∧ r.note.size ≤ 8 := by
 obtain ⟨k0, k1, k2, k3⟩ := keyD_ok s; unfold rowP at h
 split at h
 · rename_i ht
   split at h
   · rename_i hl
     split at h
     · rename_i he
       simp only [Prod.mk.injEq] at h; obtain ⟨rfl, _, _⟩ := h
       have hn : ((lenT s).raw (lenS s)).length ≤ 8 := by
        unfold St.raw rawL
        split
        · rw [List.length_take]; omega
        · simp
       have hv : I64 (valS s) := by unfold valS I64; rw [IntKind.wrap_i64]; omega
       refine ⟨⟨⟨by unfold I64; constructor <;> (show _ ; have : (⟨keyD s, valS s, ⟨((lenT s).raw (lenS s)).toArray⟩⟩ : RowD).key.t = (keyD s).t := rfl; omega), k2, k3⟩, hv, ?_⟩, ht, ?_⟩
       · show ((lenT s).raw (lenS s)).toArray.size ≤ _; unfold maxLen; simp; omega
       · show ((lenT s).raw (lenS s)).toArray.size ≤ _; simpa using hn
     · rename_i he
       simp only [Prod.mk.injEq] at h; exact absurd h.2.1 he
   · simp at h
 · simp at h
def rowsP : Nat → List RowD → St → List RowD × Int × St
 | 0, acc, s => (acc, s.e, s)
 | n + 1, acc, s => if (rowP s).2.1 = 0 then rowsP n (acc ++ [(rowP s).1]) (rowP s).2.2 else ([], (rowP s).2.1, (rowP s).2.2)
def listR (s : St) : List RowD × Int × St := if 4 < s.num 1 then ([], 161, s.next 1) else rowsP (s.num 1).toNat [] (s.next 1)
/-- what the list holds in the middle -/
structure LRS (w : World) (g : Nat) (d : Option Nat) (acc : List RowD) (v : Value) (s : St) (u : World) : Prop where
 box : Boxed u w.heap.size [.pointer (some ⟨g, 0, none⟩)]
 own : OwnR 68 u (w.heap.size + 1) v acc
 gr : w.grownBy u (some g)
 rd : RdrS u g d s
 far : w.heap.size < u.heap.size
theorem LRS.on {w u v : World} {g : Nat} {d : Option Nat} {acc : List RowD} {q : Option Addr} {n c : Nat} {s s' : St} (h : LRS w g d acc (.slice q n c) s u) (hg : u.grownBy v (some g)) (hr : RdrS v g d s') (hb : g < w.heap.size) : LRS w g d acc (.slice q n c) s' v :=
 ⟨h.box.gr hg (by omega), h.own.kept (fun a ha => hg.block _ (h.own.far a ha).2 (fun e => by have := (h.own.far a ha).1; simp at e; omega)), h.gr.trans hg, hr, Nat.lt_of_lt_of_le h.far hg.size⟩
theorem LRS.below {w u v : World} {g : Nat} {d : Option Nat} {acc : List RowD} {q : Option Addr} {n c : Nat} {s : St} (h : LRS w g d acc (.slice q n c) s u) (hb : Below u.heap.size u v) : LRS w g d acc (.slice q n c) s v :=
 ⟨h.box.below hb (Nat.le_refl _), h.own.below hb, Gr.then h.gr hb, h.rd.below hb, Nat.lt_of_lt_of_le h.far hb.size⟩
theorem LRS.more {w u v : World} {g : Nat} {d : Option Nat} {acc acc' : List RowD} {q q' : Option Addr} {n c n' c' : Nat} {s : St} (h : LRS w g d acc (.slice q n c) s u) (hg : u.grownBy v (q.map (·.block))) (ho : OwnR 68 v (w.heap.size + 1) (.slice q' n' c') acc')
 (hb : g < w.heap.size) (hsrc : ∀ x, d = some x → x < w.heap.size) : LRS w g d acc' (.slice q' n' c') s v := by
 cases q with
 | none => have hbl : Below u.heap.size u v := grown_belowN hg (Nat.le_refl _) (fun k hk => by cases hk); exact ⟨h.box.below hbl (Nat.le_refl _), ho, Gr.then h.gr hbl, h.rd.below hbl, Nat.lt_of_lt_of_le h.far hbl.size⟩
 | some a => have hf := (h.own.far a rfl).1; have hg' : u.grownBy v (some a.block) := hg; exact ⟨h.box.gr hg' (by omega), ho, Gr.own h.gr hg' (by omega), h.rd.keep hg' (by omega) (fun e => by have := hsrc _ e; omega), Nat.lt_of_lt_of_le h.far hg'.size⟩
end Go.Proofs.YtocekhckmpkbmaaGreat
namespace Go.Proofs.YtocekhckmpkbmaaGreat
open Go.RowKit
def kidsP : Nat → List KidD → St → List KidD × Int × St
 | 0, acc, s => (acc, s.e, s)
 | n + 1, acc, s => if (kidS s).e = 0 then kidsP n (acc ++ [kidD s]) (kidS s) else ([], (kidS s).e, kidS s)
def listK (s : St) : List KidD × Int × St := if 4 < s.num 1 then ([], 161, s.next 1) else kidsP (s.num 1).toNat [] (s.next 1)
/-- what the list holds in the middle -/
structure LKS (w : World) (g : Nat) (d : Option Nat) (acc : List KidD) (v : Value) (s : St) (u : World) : Prop where
 box : Boxed u w.heap.size [.pointer (some ⟨g, 0, none⟩)]
 own : OwnK u (w.heap.size + 1) v acc
 gr : w.grownBy u (some g)
 rd : RdrS u g d s
 far : w.heap.size < u.heap.size
theorem LKS.on {w u v : World} {g : Nat} {d : Option Nat} {acc : List KidD} {q : Option Addr} {n c : Nat} {s s' : St} (h : LKS w g d acc (.slice q n c) s u) (hg : u.grownBy v (some g)) (hr : RdrS v g d s') (hb : g < w.heap.size) : LKS w g d acc (.slice q n c) s' v :=
 ⟨h.box.gr hg (by omega), h.own.kept (fun a ha => hg.block _ (h.own.far a ha).2 (fun e => by have := (h.own.far a ha).1; simp at e; omega)), h.gr.trans hg, hr, Nat.lt_of_lt_of_le h.far hg.size⟩
theorem LKS.below {w u v : World} {g : Nat} {d : Option Nat} {acc : List KidD} {q : Option Addr} {n c : Nat} {s : St} (h : LKS w g d acc (.slice q n c) s u) (hb : Below u.heap.size u v) : LKS w g d acc (.slice q n c) s v :=
 ⟨h.box.below hb (Nat.le_refl _), h.own.below hb, Gr.then h.gr hb, h.rd.below hb, Nat.lt_of_lt_of_le h.far hb.size⟩
theorem LKS.more {w u v : World} {g : Nat} {d : Option Nat} {acc acc' : List KidD} {q q' : Option Addr} {n c n' c' : Nat} {s : St} (h : LKS w g d acc (.slice q n c) s u) (hg : u.grownBy v (q.map (·.block))) (ho : OwnK v (w.heap.size + 1) (.slice q' n' c') acc')
 (hb : g < w.heap.size) (hsrc : ∀ x, d = some x → x < w.heap.size) : LKS w g d acc' (.slice q' n' c') s v := by
 cases q with
 | none => have hbl : Below u.heap.size u v := grown_belowN hg (Nat.le_refl _) (fun k hk => by cases hk); exact ⟨h.box.below hbl (Nat.le_refl _), ho, Gr.then h.gr hbl, h.rd.below hbl, Nat.lt_of_lt_of_le h.far hbl.size⟩
 | some a => have hf := (h.own.far a rfl).1; have hg' : u.grownBy v (some a.block) := hg; exact ⟨h.box.gr hg' (by omega), ho, Gr.own h.gr hg' (by omega), h.rd.keep hg' (by omega) (fun e => by have := hsrc _ e; omega), Nat.lt_of_lt_of_le h.far hg'.size⟩
end Go.Proofs.YtocekhckmpkbmaaGreat
