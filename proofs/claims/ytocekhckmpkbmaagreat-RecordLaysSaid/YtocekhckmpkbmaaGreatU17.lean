/- Parts of the proof: The document's record: how pieces of bytes are made; The writer of record: numbers -/
import Derived.Test.YtocekhckmpkbmaaGreatU16
import Derived.Test.YtocekhckmpkbmaaGreatU01
import Derived.Test.YtocekhckmpkbmaaGreatU13
namespace Go.Proofs.YtocekhckmpkbmaaGreat
open Go.RowKit
theorem own_neT {T : TypeId} (hT : T ≠ 5) {w : World} {base b n c : Nat} {q : Option Addr} {l : List UInt8} {cs : List Value} (h : Own w base (.slice q n c) l) (hb : RowV T w b cs) : ∀ a, q = some a → b ≠ a.block := by
 intro a ha e; obtain ⟨_, ⟨he, _⟩ | ⟨g, cap, cur, he, _, hh, _⟩⟩ := h
 · cases he; cases ha
 · cases he; cases ha; obtain rfl : b = g := e; unfold RowV at hb; rw [hb] at hh; simp at hh; exact hT hh.2
theorem grown_kp {u w' : World} {q : Option Addr} {b : Nat} (h : u.grownBy w' (blockOf q)) (hb : b < u.heap.size) (hne : ∀ a, q = some a → b ≠ a.block) : w'.heap[b]? = u.heap[b]? := by
 refine h.block b hb ?_; cases q with
 | none => exact fun e => by cases e
 | some a => exact fun e => hne a rfl (by simpa [blockOf] using e)
def BoxS (T : TypeId) (W : World) (g : Nat) (cs : List Value) (u : World) : Prop := Below W.heap.size W u ∧ RowV T u g cs
theorem keepS_box {T : TypeId} (hT : T ≠ 5) (W : World) (g : Nat) (cs : List Value) : KeepS (BoxS T W g cs) W.heap.size :=
 ⟨fun _ h => h.1.size, fun _ _ h hb => ⟨below_step hb h.1, h.2.below hb⟩, fun _ _ _ _ _ _ h ho hg => ⟨ho.up hg h.1 (Nat.le_refl _), h.2.block (grown_kp hg h.2.lt (own_neT hT ho h.2))⟩⟩
theorem Calls.pcm {f : FuncId} {args : Array Value} {u : World} {k : List UInt8} {n : Nat} (h : Calls Tryz.prog f args u (BytesPost u n k)) (hn : k.length = n) : Calls Tryz.prog f args u (fun e u' => ∃ v, e = .returned v ∧ PcM k u v u') :=
 h.mono fun e u' he => by obtain ⟨q, c, rfl, h1, h2⟩ := he; subst hn; exact ⟨_, rfl, q, c, rfl, h1, h2⟩
theorem mk_call {o : Oper} {a : Act} {u : World} {t x n : Nat} {z : Int} (ho : o.op = .call { callee := .value (.func 42), args := #[.tmp t, .const (.int .i64 z)], argTypes := #[24, 3] }) (he : a.eval (.tmp t) = .int .u64 x) (hz : z = n) (hn : n ≤ 8) : Ends Tryz.prog o a u (PcM (be n x) u) := by
 subst hz; have he' : a.tmps[t]?.getD undef = .int .u64 x := by rw [← he]; simp [Act.eval]
 refine .inl ⟨42, #[.int .u64 x, .int .i64 n], _, ?_, Calls.pcm (high_doc x n u hn) (length_be n x), fun e w' h => h⟩; unfold execOp; simp only [ho]
 go_simp
theorem mk_lit {o : Oper} {a : Act} {u : World} {t : Nat} {z : Int} (ho : o.op = .buildSlice 36 1 #[(0, .tmp t)]) (he : a.eval (.tmp t) = .int .u8 z) (h0 : 0 ≤ z) (h1 : z < 256) : Ends Tryz.prog o a u (PcM [UInt8.ofNat z.toNat] u) := by
 have hr : Row 5 (u.alloc (.cells #[.int .u8 z] 5)) u.heap.size [UInt8.ofNat z.toNat] := by have h := made1 u (UInt8.ofNat z.toNat); rw [ofNat_int h0 h1] at h; exact h
 have he' : a.tmps[t]?.getD undef = .int .u8 z := by rw [← he]; simp [Act.eval]
 refine .inr ⟨.slice (some ⟨u.heap.size, 0, none⟩) 1 1, u.alloc (.cells #[.int .u8 z] 5), ?_, some ⟨u.heap.size, 0, none⟩, 1, rfl, Row.own hr (Nat.le_refl _) (by show 1 ≤ maxLen; unfold maxLen; decide), (Below.refl _ _).alloc (Nat.le_refl _) _⟩; unfold execOp; simp only [ho, Act.eval]
 go_simp
end Go.Proofs.YtocekhckmpkbmaaGreat
namespace Go.Proofs.YtocekhckmpkbmaaGreat
open Go.RowKit
theorem no_x {b : Bool} {X : Prop} (h : b = true) : b = false → X := fun e => by rw [h] at e; cases e
theorem run_append_op2 {P : Program} {o : Oper} {a : Act} {w w' : World} {s x : Operand} {t : TypeId} {v1 v2 v : Value} (ho : o.op = .call { callee := .builtin .append, args := #[s, x], argTypes := #[t, t] }) (hs : a.eval s = v1) (hx : a.eval x = v2)
 (h : (Builtin.append_ #[t, t] o.type #[v1, v2]).run P w = .ok v w') : (execOp a.eval o).run P w = .ok (.value v) w' := by
 unfold execOp; simp only [ho, resolve, invoke, builtin, Sem.run_bind, Sem.run_pure, Result.andThen_ok, List.map_toArray, List.map_cons, List.map_nil, hs, hx, h]
section
variable {P : Program} {ops : Array Oper} {Q : Exit → Act → World → Prop} {md : Region.Mode} {s : Nat} {X : World → Prop}
theorem x_call {i : Nat} {o : Oper} {dst : Option Tmp} (hd : o.dst = dst) {k : Nat} {l : Array Bool} {a : Act} {w : World} {f : FuncId} {args : Array Value} {R : Ending → World → Prop} (hi : ops[i]? = some o) (hr : Region.ready md ops l = [i]) (hw : Region.wanted o (yielded ops a.tmps) = true)
 (hrun : (execOp a.eval o).run P w = .ok (.enter f args) w) (hc : Calls P f args w R) (h : ∀ e w', R e w' → ∃ v, e = .returned v ∧ ((l.setIfInBounds i true).getD s true = false → X w') ∧ wpAnyX P md ops Q s X k (l.setIfInBounds i true) (a.put dst v) w') : wpAnyX P md ops Q s X (k + 1) l a w := by
 subst hd; refine x_one hi hr hw ?_; unfold Oper.wp; rw [hrun, Oper.upon_enter]; refine hc.mono fun e w' he => ?_
 obtain ⟨v, rfl, h1, h2⟩ := h e w' he; exact ⟨h1, h2⟩
end
theorem put64n (x : Int) (u : World) (hx : 0 ≤ x) : Calls Tryz.prog 93 #[.slice none 0 0, .int .u64 x] u (fun e w' => e = .returned (.slice (some ⟨u.heap.size, 0, none⟩) 8 8) ∧ Row 5 w' u.heap.size (be 8 x.toNat) ∧ Below u.heap.size u w') :=
 put64 none 0 0 x [] u ⟨none, 0, rfl, fun _ => rfl, fun a ha => by cases ha⟩ (by decide) hx
set_option maxRecDepth 100000 in
set_option maxHeartbeats 4000000 in
theorem numbers_any (g : Nat) (o : Option Nat) (l : List UInt8) (k m n b : Nat) (hk : k + m = 8) (h1k : 1 ≤ k) (xs : List Int) (hn : xs.length = n) (w : World) (h : Wr w g o l) (hx : RowV 24 w b (xs.map (Value.int .u64))) (hbg : b ≠ g) (hbo : o ≠ some b) (hok : ∀ x ∈ xs, U64 x) (hbig : l.length + 8 * n ≤ 549755813888) :
 Calls Tryz.prog 68 #[.pointer (some ⟨g, 0, none⟩), .int .i64 k, .slice (some ⟨b, 0, none⟩) n n] w (WrPost w g o (l ++ encNums k xs)) := by
 have hx := lh hx; have hn := lh hn; have hok := lh hok; have h0 : Hid (∃ o1, Wr w g o1 (l ++ encNums k (xs.take 0)) ∧ WStep w w g o o1) := ⟨o, by rw [show encNums k (xs.take 0) = [] from rfl, List.append_nil]; exact h, WStep.refl w g o⟩; have hsub : IntKind.i64.wrap (8 - (k : Int)) = (m : Int) := by rw [show (8 - (k : Int)) = (m : Int) by omega]; exact wrap_small m (by omega) (by omega)
 clear h
 go_enter Tryz.func68, Tryz.ntmps68
 go_wp2
 go_loopw [10] (fun v wr => ∃ j : Nat, j ≤ n ∧ v = .int .i64 j ∧ Hid (∃ o1, Wr wr g o1 (l ++ encNums k (xs.take j)) ∧ WStep w wr g o o1)) (fun v _ => n - (RowKit.intOf v).toNat)
 case atStart => exact ⟨0, Nat.zero_le _, rfl, h0⟩
 case round =>
  obtain ⟨j, hj, rfl, hst⟩ := hrel; clear h0
  by_cases hlt : j < n
  · obtain ⟨x, hxj⟩ : ∃ x, xs[j]? = some x := ⟨_, List.getElem?_eq_getElem (by have := hn.out; omega)⟩; have hux := hok.out x (List.mem_of_getElem? hxj); have hxj := lh hxj; obtain ⟨o1, hwr, hstep⟩ := hst.out; have hrow := lh (hstep.row hx.out hbg hbo); have hstep := lh hstep; obtain ⟨q, c, hr, how, hqo⟩ := hwr; have hr := lh hr; have how := lh how; have hqo := lh hqo; clear hst; obtain ⟨L, hL⟩ : ∃ L, (l ++ encNums k (xs.take j)).length = L := ⟨_, rfl⟩; have hLb : L ≤ l.length + 8 * n := by rw [← hL, List.length_append, encNums_len, List.length_take]; have : k * min j xs.length ≤ 8 * n := Nat.mul_le_mul (by omega) (by have := hn.out; omega); omega
    have hcell : wr.cell? ⟨b, j, none⟩ = some (.int .u64 x) := by rw [hrow.out.cell, List.getElem?_map, hxj.out]; rfl
    have hL := lh hL; have hr' : Hid (RowV 109 wr g [.slice q L c]) := by have h1 := hr.out; rw [hL.out] at h1; exact h1
    have how' : Hid (Own wr (g + 1) (.slice q L c) (l ++ encNums k (xs.take j))) := by have h1 := how.out; rw [hL.out] at h1; exact h1
    have hLb := lh hLb; have i0 : (0 : Int) ≤ j := by omega
    have i1 : (j : Int) < n := by omega
    obtain ⟨x0, x1⟩ := hux
    go_wp2_with fail
    clear hcell; refine wp_region_x (by kernel_rfl) 13 (fun u => RowV 109 u g [.slice q L c]) ?_; change wpAnyX _ _ _ _ _ _ _ _ _ (World.drew wr); have hdr : Below wr.heap.size wr (World.drew wr) := below_drew wr; have hX : RowV 109 (World.drew wr) g [.slice q L c] := hr'.out.below hdr; have hstep2 := hstep.out.trans (WStep.of_below hdr); have how2 := how'.out.below hdr; have hlt2 : g < (World.drew wr).heap.size := hX.lt; generalize World.drew wr = u0 at hX hstep2 how2 hlt2 ⊢; have kk : ∀ {u : World}, RowV 109 u g [.slice q L c] → u.cell? ⟨g, 0, none⟩ = some (.slice q L c) := fun hu => hu.cell 0
    refine x_pure (i := 0) (dst := some 14) (v := .pointer (some ⟨g, 0, none⟩)) rfl rfl (by kernel_rfl) (by kernel_rfl) (by kernel_rfl) (by kernel_rfl) (fun _ _ _ h => h) (.inl ⟨rfl, fun u hu => by go_simp⟩) (fun _ => hX) ?_; go_frame; refine x_pure (i := 1) (dst := some 15) (v := .pointer (some ⟨g, 0, none⟩)) rfl rfl (by kernel_rfl) (by kernel_rfl) (by kernel_rfl) (by kernel_rfl) (fun _ _ _ h => h) (.inl ⟨rfl, fun u hu => by go_simp⟩) (fun _ => hX) ?_; go_frame; refine x_pure (i := 2) (dst := some 16) (v := .pointer (some ⟨g, 0, none⟩)) rfl rfl (by kernel_rfl) (by kernel_rfl) (by kernel_rfl) (by kernel_rfl) (fun _ _ _ h => h) (.inl ⟨rfl, fun u hu => by go_simp⟩) (fun _ => hX) ?_; go_frame; refine x_pure (i := 3) (dst := some 17) (v := .pointer (some ⟨g, 0, none⟩)) rfl rfl (by kernel_rfl) (by kernel_rfl) (by kernel_rfl) (by kernel_rfl) (fun _ _ _ h => h) (.inl ⟨rfl, fun u hu => by go_simp⟩) (fun _ => hX) ?_; go_frame
    refine x_take (i := 4) (dst := some 18) (v := .slice q L c) rfl rfl (by kernel_rfl) (by kernel_rfl) (by kernel_rfl) (by kernel_rfl) (by kernel_rfl) (fun _ _ _ h => h) (.inl ⟨rfl, fun u hu => by have c1 := kk hu; go_simp⟩) hX ?_; go_frame; refine x_pure (i := 5) (dst := some 19) (v := .int .u64 x) rfl rfl (by kernel_rfl) (by kernel_rfl) (by kernel_rfl) (by kernel_rfl) (fun _ _ _ h => h) (.inl ⟨rfl, fun u hu => by go_simp⟩) (fun _ => hX) ?_; go_frame; refine x_pure (i := 7) (dst := some 21) (v := .int .i64 k) rfl rfl (by kernel_rfl) (by kernel_rfl) (by kernel_rfl) (by kernel_rfl) (fun _ _ _ h => h) (.inl ⟨rfl, fun u hu => by go_simp⟩) (fun _ => hX) ?_; go_frame; refine x_pure (i := 8) (dst := some 22) (v := .int .i64 m) rfl rfl (by kernel_rfl) (by kernel_rfl) (by kernel_rfl) (by kernel_rfl) (fun _ _ _ h => h) (.inl ⟨rfl, fun u hu => by go_simp⟩) (fun _ => hX) ?_; go_frame; refine x_call (i := 6) (dst := some 20) rfl rfl (by kernel_rfl) rfl (by go_simp) (put64n x u0 x0) ?_
    rintro e u1 ⟨rfl, hrow8, hb1⟩; have hX1 : RowV 109 u1 g [.slice q L c] := hX.below hb1; refine ⟨_, rfl, fun _ => hX1, ?_⟩; go_frame; have how3 := how2.below hb1; have hstep3 := hstep2.trans (WStep.of_below hb1); have hh8 := hrow8.holds 8; rw [length_be] at hh8; have hh8' := holds_drop hh8 (k := m) (by omega) (Nat.le_refl _); have e8 : (be 8 x.toNat).drop m = be k x.toNat := by rw [show m = 8 - k by omega]; exact be_tail (by omega) _
    rw [e8] at hh8'; have hsl := fun u : World => slice_tail8 (some ⟨u0.heap.size, 0, none⟩) 8 8 m (by omega) u
    refine x_pure (i := 9) (dst := some 23) (v := .slice (tl (some ⟨u0.heap.size, 0, none⟩) 8 m) (8 - m) (8 - m)) rfl rfl (by kernel_rfl) (by kernel_rfl) (by kernel_rfl) (by kernel_rfl) (fun _ _ _ h => h) (.inl ⟨rfl, fun u hu => by go_simp⟩) (fun _ => hX1) ?_; go_frame; obtain ⟨q2, c2, u2, hrun, ho2, hg2, hat2⟩ := run_append_bytes_at (w := u1) 36 how3 hh8' (by have := hLb.out; omega) (by have := hX1.lt; omega)
    have hX2 : RowV 109 u2 g [.slice q L c] := hX1.block (hg2.block g hX1.lt (fun e => by
     cases q with
     | none => cases e
     | some a => have h2 := how3.holds.2.2 a rfl; simp [blockOf] at e; omega))
    refine x_value (i := 10) (dst := some 24) (w' := u2) rfl rfl (by kernel_rfl) rfl (run_append_op2 (s := .tmp 18) (x := .tmp 23) rfl rfl rfl hrun) (fun _ => hX2) ?_; go_frame; refine x_pure (i := 11) (dst := some 25) (v := .pointer (some ⟨g, 0, none⟩)) rfl rfl (by kernel_rfl) (by kernel_rfl) (by kernel_rfl) (by kernel_rfl) (fun _ _ _ h => h) (.inl ⟨rfl, fun u hu => by go_simp⟩) (fun _ => hX2) ?_; go_frame; refine x_pure (i := 12) (dst := some 26) (v := .pointer (some ⟨g, 0, none⟩)) rfl rfl (by kernel_rfl) (by kernel_rfl) (by kernel_rfl) (by kernel_rfl) (fun _ _ _ h => h) (.inl ⟨rfl, fun u hu => by go_simp⟩) (fun _ => hX2) ?_; go_frame; obtain ⟨u3, hu3⟩ : ∃ y, u2.setCell ⟨g, 0, none⟩ (.slice q2 (L + (8 - m)) c2) = y := ⟨_, rfl⟩; have e4 := hX2.cell 0; have f4 : u2.frozen? ⟨g, 0, none⟩ = false := hX2.free 0; have st4 : (storeVar 36 ⟨g, 0, none⟩ (.slice q2 (L + (8 - m)) c2)).run Tryz.prog u2 = .ok () u3 := by rw [← hu3]; go_simp
    refine x_skip (i := 13) (dst := none) rfl rfl (by kernel_rfl) rfl (run_store_op (x := .tmp 26) (y := .tmp 24) rfl rfl rfl st4) (no_x (by kernel_rfl)) ?_; go_frame; refine x_done (by kernel_rfl) ?_; have hlk : (be k x.toNat).length = 8 - m := by rw [length_be]; omega
    have hfin : Wr u3 g (q2.map (·.block)) ((l ++ encNums k (xs.take j)) ++ be k x.toNat) ∧ WStep u1 u3 g (q.map (·.block)) (q2.map (·.block)) := by have hLe := hL.out; subst hLe; exact wr_app hX1 how3 hlk ho2 hg2 hat2 hu3
    have hst9 : Hid (∃ o1, Wr u3 g o1 (l ++ encNums k (xs.take (j + 1))) ∧ WStep w u3 g o o1) := ⟨_, by rw [encNums_step hxj.out, ← List.append_assoc]; exact hfin.1, by rw [hqo.out] at hfin; exact hstep3.trans hfin.2⟩; clear hX hX1 hX2 how2 how3 hstep2 hstep3 hrow8 hh8 hh8' hsl hrun ho2 hg2 hat2 e4 f4 st4 hfin hu3 hb1 hdr; go_wp2
    go_roundw
    case rel => exact ⟨j + 1, by omega, by go_num, hst9⟩
    case measure => simp [RowKit.intOf]; omega
  · obtain rfl : n = j := by omega
    have hall : xs.take n = xs := by rw [← hn.out]; exact List.take_length ..
    rw [hall] at hst; clear hx hok hall; go_wp2; go_end0; obtain ⟨o1, a1, a2⟩ := hst.out; exact ⟨o1, rfl, a1, a2⟩
end Go.Proofs.YtocekhckmpkbmaaGreat
