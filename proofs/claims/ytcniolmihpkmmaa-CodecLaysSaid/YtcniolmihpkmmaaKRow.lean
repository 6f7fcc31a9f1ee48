/- The bytes of rows and kids; Row. -/
import Derived.Test.YtcniolmihpkmmaaKEnc
import Derived.Test.YtcniolmihpkmmaaPair
namespace Go.Proofs.Ytcniolmihpkmmaa
open Go.RowKit

theorem u64_wrap (v : Int) : IntKind.u64.wrap v = (u64 v : Int) := by
  unfold u64
  rw [Int.toNat_of_nonneg (Int.emod_nonneg _ (by decide))]
  rfl
theorem strCells_vals (s : ByteArray) : Lib.strCells s = vals s.data.toList := rfl
theorem Own.up {w w' : World} {base : Nat} {q0 : Option Addr} {n0 c0 : Nat} {l : List UInt8} {w0 : World} (h : Own w base (.slice q0 n0 c0) l) (hg : w.grownBy w' (blockOf q0)) (hb : Below w0.heap.size w0 w) (hB : w0.heap.size ≤ base) : Below w0.heap.size w0 w' :=
  hb.trans (grown_belowN hg hb.size fun k hk => by
    cases q0 with
    | none => cases hk
    | some a => cases hk; exact Nat.le_trans hB (h.holds.2.2 a rfl).1)

theorem Own.mono {w : World} {b b' : Nat} {v : Value} {l : List UInt8} (h : Own w b v l) (hb : b' ≤ b) : Own w b' v l := by
  obtain ⟨hlen, hr | ⟨g, cap, cur, he, hg, r⟩⟩ := h
  · exact ⟨hlen, .inl hr⟩
  · exact ⟨hlen, .inr ⟨g, cap, cur, he, Nat.le_trans hb hg, r⟩⟩

set_option maxRecDepth 100000 in
set_option maxHeartbeats 2000000 in
theorem rowBytes_any (t id v : Int) (s : ByteArray) (w : World) (h0 : 0 ≤ t) (h1 : t < 256) (hi0 : 0 ≤ id) (hi1 : id < 65536) (h8 : s.size ≤ 8) :
    Calls Try.prog 30 #[.agg #[.int .i64 t, .int .u16 id, .int .i64 v, .string s]] w (BytesPost w (12 + s.size) (encRow ⟨⟨t, id⟩, v, s⟩)) := by
  obtain ⟨W, hW⟩ : ∃ W, w.alloc (.cells #[.int .i64 t, .int .u16 id, .int .i64 v, .string s] 42) = W := ⟨_, rfl⟩
  have hbx := Lib.hid (one_box (xs := [.int .i64 t, .int .u16 id, .int .i64 v, .string s]) hW)
  have c0 := hbx.out.2.1.cell 0 rfl
  have c1 := hbx.out.2.1.cell 1 rfl
  have c2 := hbx.out.2.1.cell 2 rfl
  have hkb := Lib.hid (fun u => keyBytes_any t id u h0 h1 hi0 hi1)
  have hu := u64_wrap v
  have hu0 : (0 : Int) ≤ (u64 v : Int) := Int.natCast_nonneg _
  go_enter Try.func30, Try.ntmps30
  go_wp2
  clear hW
  go_region_held3 (fun u => u.cell? ⟨w.heap.size, 0, none⟩ = some (.int .i64 t) ∧ u.cell? ⟨w.heap.size, 1, none⟩ = some (.int .u16 id) ∧ u.cell? ⟨w.heap.size, 2, none⟩ = some (.int .i64 v) ∧ Below W.heap.size W u)
    (first | exact ⟨c0, c1, c2, below_drew _⟩ | (go_split_ands; exact ⟨cell_keeps hb6.out (Nat.le_refl _) (by assumption), cell_keeps hb6.out (Nat.le_refl _) (by assumption), cell_keeps hb6.out (Nat.le_refl _) (by assumption), below_step hb6.out (by assumption)⟩))
    (first
      | (go_at_call 45; refine (hkb.out _).mono ?_; rintro e u1 ⟨q1, k1, rfl, ho1, hb6'⟩; have hb6 := Lib.hid hb6'; have ho := Lib.hid ho1; have hv1 := Lib.hid (below_step hb6' (show Below W.heap.size W _ by go_split_ands; first | assumption | exact below_drew _)); clear hb6' ho1)
      | (go_at_call 44; refine (put64 q1 3 k1 (u64 v : Int) (encKey ⟨t, id⟩) _ ho.out.holds.1 (by decide) (Int.natCast_nonneg _)).mono ?_; rintro e u2 ⟨rfl, hr1, hb6'⟩; have hb6 := Lib.hid hb6'; have hr := Lib.hid hr1; clear hb6' hr1))
  have hv : Hid (Below W.heap.size W u2) := by
    show Below _ _ _
    go_split_ands
    assumption
  have c3 := (hbx.out.2.1.below hv.out (Nat.le_refl _)).cell 3 rfl
  clear c0 c1 c2 hu hu0 hkb
  have hown : Hid (Own u2 W.heap.size (.slice (some ⟨u1.heap.size, 0, none⟩) 11 11) (encKey ⟨t, id⟩ ++ be 8 (u64 v))) := by
    have h := Row.own (B := W.heap.size) hr.out hv1.out.size (by rw [List.length_append, encKey_len, length_be]; unfold maxLen; decide)
    rw [List.length_append, encKey_len, length_be] at h
    exact h
  have hx : Hid (((UInt8.ofNat s.size).toNat : Int) = s.size) := by show _ = _; simp; omega
  have hm := Lib.hid (made1 u2 (UInt8.ofNat s.size))
  rw [hx.out] at hm
  obtain ⟨W2, hW2⟩ : ∃ W2, u2.alloc (.cells #[.int .u8 s.size] 5) = W2 := ⟨_, rfl⟩
  have hb2 := Lib.hid (one_box (xs := [.int .u8 s.size]) hW2)
  have hm2 : Hid (Row 5 W2 u2.heap.size [UInt8.ofNat s.size]) := by have h := hm.out; rw [hW2] at h; exact h
  have hown2 := Lib.hid (hown.out.below hb2.out.1)
  have hv2 := Lib.hid (hv.out.trans (hb2.out.1.mono hv.out.size))
  have hsz2 := Lib.hid hv2.out.size
  obtain ⟨i0, hi, hz0, hz1, hz2⟩ := info_parts info5
  clear hm
  go_wp2_with (first
    | (at_builtin
       refine wpList_append_bytes rfl (.tmp 11) (.tmp 16) rfl rfl rfl hown2.out (hm2.out.holds 1) (by decide) hsz2.out ?_
       intro q3 c3' w3 h3 hg3
       have ho3 := Lib.hid h3
       have hb3 := Lib.hid (hown2.out.up (w0 := W) hg3 hv2.out (Nat.le_refl _))
       have d3 := (hbx.out.2.1.below hb3.out (Nat.le_refl _)).cell 3 rfl
       have hsz3 := Lib.hid hb3.out.size
       clear h3 hg3)
    | (at_builtin
       refine Lib.wpList_append_own_string _ rfl (.tmp 18) (.tmp 20) 33 9 rfl W.heap.size 5 i0 Try.underlying33 Try.underlying9 hi hz0 hz1 hz2 _ 12 (vals ((encKey ⟨t, id⟩ ++ be 8 (u64 v)) ++ [UInt8.ofNat s.size])) rfl ho3.out s rfl (by unfold maxLen; omega) (by omega) hsz3.out ?_
       intro v4 w4 h4 hg4 _
       rw [strCells_vals, ← vals_append] at h4
       have ho4 := Lib.hid h4
       have hg4' := Lib.hid hg4
       clear h4 hg4))
  have hlen : (encRow ⟨⟨t, id⟩, v, s⟩).length = 12 + s.size := by
    unfold encRow
    rw [List.length_append, List.length_append, List.length_append, encKey_len, length_be, List.length_singleton, Array.length_toList]
    rfl
  have hfin : Own w4 W.heap.size v4 (encRow ⟨⟨t, id⟩, v, s⟩) := by
    have h := ho4.out
    unfold Own
    rw [hlen]
    exact h
  obtain ⟨q4, c4, rfl⟩ := hfin.shape
  rw [hlen] at hfin ⊢
  have hb4 := ho3.out.up (w0 := W) (by cases q3 <;> exact hg4'.out) hb3.out (Nat.le_refl _)
  have hfin' := Lib.hid hfin
  have hb4' := Lib.hid hb4
  clear hfin hb4 hlen
  go_wp2
  go_ret
  exact ⟨q4, c4, rfl, hfin'.out.mono hbx.out.1.size, hbx.out.1.trans (hb4'.out.mono hbx.out.1.size)⟩

theorem run_append_oper {P : Program} {o : Oper} {a : Act} {w w' : World} {sl x : Operand} {t : TypeId} {v1 v2 v : Value} (ho : o.op = .call { callee := .builtin .append, args := #[sl, x], argTypes := #[t, t] }) (hs : a.eval sl = v1) (hx : a.eval x = v2)
    (h : (Builtin.append_ #[t, t] o.type #[v1, v2]).run P w = .ok v w') : (execOp a.eval o).run P w = .ok (.value v) w' := by
  unfold execOp
  simp only [ho, resolve, invoke, builtin, Sem.run_bind, Sem.run_pure, Result.andThen_ok, List.map_toArray, List.map_cons, List.map_nil, hs, hx, h]

def KbS (W : World) (b : Nat) (t id p : Int) (u : World) : Prop := Boxed u b [.int .i64 t, .int .u16 id, .int .i64 p] ∧ Below W.heap.size W u
theorem KbS.on {W : World} {b : Nat} {t id p : Int} {u v : World} (h : KbS W b t id p u) (hb : Below u.heap.size u v) : KbS W b t id p v := ⟨h.1.below hb (Nat.le_refl _), below_step hb h.2⟩
theorem KbS.key {W : World} {b : Nat} {t id p : Int} {u : World} (h : KbS W b t id p u) : ∀ j x, ([.int .i64 t, .int .u16 id] : List Value)[j]? = some x → u.cell? ((⟨b, 0, none⟩ : Addr).add j) = some x := fun j x hj => h.1 j x (by
  match j, hj with
  | 0, hj => exact hj
  | 1, hj => exact hj
  | j + 2, hj => simp at hj)
def KbZ (W : World) (b : Nat) (t id p : Int) (v u : Value) (x : World) : Prop := ∃ q c r, v = .slice q 3 c ∧ u = .slice (some ⟨r, 0, none⟩) 1 1 ∧ Own x W.heap.size (.slice q 3 c) (encKey ⟨t, id⟩) ∧ Row 5 x r [UInt8.ofNat p.toNat] ∧ KbS W b t id p x

set_option maxRecDepth 100000 in
set_option maxHeartbeats 2000000 in
theorem kidBytes_any (t id p : Int) (w : World) (h0 : 0 ≤ t) (h1 : t < 256) (hi0 : 0 ≤ id) (hi1 : id < 65536) (hp0 : 0 ≤ p) (hp1 : p < 256) :
    Calls Try.prog 31 #[.agg #[.int .i64 t, .int .u16 id, .int .i64 p]] w (BytesPost w 4 (encKid ⟨⟨t, id⟩, p⟩)) := by
  obtain ⟨W, hW⟩ : ∃ W, w.alloc (.cells #[.int .i64 t, .int .u16 id, .int .i64 p] 56) = W := ⟨_, rfl⟩
  have hbx := Lib.hid (one_box (xs := [.int .i64 t, .int .u16 id, .int .i64 p]) hW)
  have hs3 := sizeKey t id
  have hx : Hid (((UInt8.ofNat p.toNat).toNat : Int) = p) := Lib.hid (ofNat_int hp0 hp1)
  have hwp : IntKind.u8.wrap p = p := by show p % 256 = p; omega
  have hkb : ∀ u, Calls Try.prog 45 #[.agg #[.int .i64 t, .int .u16 id]] u (BytesPost u 3 (encKey ⟨t, id⟩)) := fun u => keyBytes_any t id u h0 h1 hi0 hi1
  have mk : ∀ u : World, Row 5 (u.alloc (.cells #[.int .u8 p] 5)) u.heap.size [UInt8.ofNat p.toNat] := fun u => by
    have h := made1 u (UInt8.ofNat p.toNat)
    rw [hx.out] at h
    exact h
  go_enter Try.func31, Try.ntmps31
  go_wp2
  have hS0 : KbS W w.heap.size t id p W.drew := ⟨hbx.out.2.1.below (below_drew W) (Nat.le_refl _), below_drew W⟩
  refine wp_region_held (S := KbS W w.heap.size t id p) (by kernel_rfl) ?_
  change wpAnyH _ _ _ _ _ _ _ _ (World.drew W)
  refine held_take (i := 0) (dst := some 3) (v := .pointer (some ⟨w.heap.size, 0, none⟩)) rfl rfl (by kernel_rfl) (by kernel_rfl) (by kernel_rfl) (fun _ _ _ h => h) (.inl ⟨rfl, fun W _ => by go_simp⟩) hS0 ?_
  go_frame
  refine held_take (i := 1) (dst := some 4) rfl rfl (by kernel_rfl) (by kernel_rfl) (by kernel_rfl) (fun _ _ _ h => h) (y_load_agg 40 (.tmp 3) rfl rfl rfl (fun W hW => run_loadVar_at Try.underlying40 rfl hs3 _ hW.key)) hS0 ?_
  go_frame
  refine held_take (i := 3) (dst := some 6) (v := .pointer (some ⟨w.heap.size, 2, none⟩)) rfl rfl (by kernel_rfl) (by kernel_rfl) (by kernel_rfl) (fun _ _ _ h => h) (.inl ⟨rfl, fun W _ => by go_simp⟩) hS0 ?_
  go_frame
  refine held_take (i := 4) (dst := some 7) (v := .int .i64 p) rfl rfl (by kernel_rfl) (by kernel_rfl) (by kernel_rfl) (fun _ _ _ h => h) (.inl ⟨rfl, fun W hW => by have c2 := hW.1.cell 2 rfl; go_simp⟩) hS0 ?_
  go_frame
  refine held_take (i := 5) (dst := some 8) (v := .int .u8 p) rfl rfl (by kernel_rfl) (by kernel_rfl) (by kernel_rfl) (fun _ _ _ h => h) (.inl ⟨rfl, fun W hW => by go_simp⟩) hS0 ?_
  go_frame
  clear hW
  refine held_pair (i := 2) (j := 6) (di := some 5) (dj := some 9) (Z := KbZ W w.heap.size t id p) rfl rfl rfl rfl (by kernel_rfl) (by kernel_rfl) (by kernel_rfl) rfl rfl rfl (fun _ => rfl) (fun _ => rfl) (fun _ _ => rfl) (by go_simp) (hkb _) ?_ ?_ ?_
  · rintro e u ⟨q, c, rfl, ho, hb⟩
    have hS1 := hS0.on hb
    refine ⟨_, .slice (some ⟨u.heap.size, 0, none⟩) 1 1, u.alloc (.cells #[.int .u8 p] 5), rfl, hS1, by go_simp, hS1.on ((Below.refl _ _).alloc (Nat.le_refl _) _), q, c, u.heap.size, rfl, rfl, ?_, mk u, hS1.on ((Below.refl _ _).alloc (Nat.le_refl _) _)⟩
    exact (ho.below ((Below.refl _ _).alloc (Nat.le_refl _) _)).mono (Nat.le_refl _)
  · refine ⟨.slice (some ⟨W.drew.heap.size, 0, none⟩) 1 1, W.drew.alloc (.cells #[.int .u8 p] 5), _, by go_simp, hS0.on ((Below.refl _ _).alloc (Nat.le_refl _) _), by go_simp, hkb _, ?_⟩
    rintro e u ⟨q, c, rfl, ho, hb⟩
    have hS1 := (hS0.on ((Below.refl _ _).alloc (Nat.le_refl _) (.cells #[.int .u8 p] 5))).on hb
    refine ⟨_, rfl, hS1, q, c, W.drew.heap.size, rfl, rfl, ho.mono (by show W.heap.size ≤ _; simp), ?_, hS1⟩
    exact (mk W.drew).block (hb.block _ (by simp))
  · rintro v u X ⟨q, c, r, rfl, rfl, ho, hr, hS1⟩
    go_frame
    obtain ⟨q', c', w', hrun, h1', h2'⟩ := run_append_bytes (m := 1) 33 ho (hr.holds 1) (by decide) hS1.2.size
    have hb7 : Below W.heap.size W w' := ho.up h2' hS1.2 (Nat.le_refl _)
    have hS2 : KbS W w.heap.size t id p w' := ⟨hbx.out.2.1.below hb7 (Nat.le_refl _), hb7⟩
    refine held_value (i := 7) (dst := some 10) (v := .slice q' 4 c') (w' := w') rfl rfl (by kernel_rfl) rfl (run_append_oper (sl := .tmp 5) (x := .tmp 9) rfl rfl rfl hrun) hS2 ?_
    go_frame
    refine held_take (i := 8) (dst := some 2) (v := .slice q' 4 c') rfl rfl (by kernel_rfl) (by kernel_rfl) (by kernel_rfl) (fun _ _ _ h => h) (.inl ⟨rfl, fun W hW => by go_simp⟩) hS2 ?_
    go_frame
    refine wpAnyH_done (by kernel_rfl) ?_ _
    have ho7 := Lib.hid h1'
    clear hrun h1' h2' hkb mk hS0 hS1
    go_wp2
    go_ret
    exact ⟨q', c', rfl, ho7.out.mono hbx.out.1.size, hbx.out.1.trans (hb7.mono hbx.out.1.size)⟩
end Go.Proofs.Ytcniolmihpkmmaa
