/- The contracts of Sign and Check. -/
import Derived.Test.YthjmmnbfjahamaaDoorStand
import Derived.Test.YthjmmnbfjahamaaDoorHeld
import Derived.Deep.AppendSrc
namespace Go.Proofs.YthjmmnbfjahamaaDoor
open Go.RowKit

/-- The slice v holds the bytes l in a row of its own from block base on. -/
def Own (w : World) (base : Nat) (v : Value) (l : List UInt8) : Prop := w.ownsRow base 5 1 v l.length (vals l)

theorem Own.holds {w : World} {base : Nat} {q : Option Addr} {n c : Nat} {l : List UInt8} (h : Own w base (.slice q n c) l) : Lib.HoldsBytes w (.slice q n c) l ∧ n ≤ c ∧ (∀ a, q = some a → base ≤ a.block ∧ a.block < w.heap.size) := by
  obtain ⟨hlen, ⟨he, h0⟩ | ⟨g, cap, cur, he, hg, hh, hle, hm, hsz, htk⟩⟩ := h
  · cases he
    have : l = [] := List.eq_nil_of_length_eq_zero h0
    subst this
    exact ⟨⟨none, 0, rfl, fun _ => rfl, fun a ha => by cases ha⟩, Nat.le_refl _, fun a ha => by cases ha⟩
  · cases he
    refine ⟨⟨some ⟨g, 0, none⟩, c, rfl, (fun h => by cases h), fun a ha i x hx => ?_⟩, hle, fun a ha => by cases ha; exact ⟨hg, (Array.getElem?_eq_some_iff.1 hh).1⟩⟩
    cases ha
    have hadd : (⟨g, 0, none⟩ : Addr).add i = ⟨g, i, none⟩ := by unfold Addr.add; split <;> simp_all
    have hi : i < l.length := (List.getElem?_eq_some_iff.1 hx).1
    rw [hadd, cell_of_row w g i cur 5 (0, 0) hh]
    have h3 := congrArg (·[i]?) htk
    simp only [Nat.mul_one] at h3
    rw [List.getElem?_take_of_lt hi] at h3
    rw [← Array.getElem?_toList, h3]
    simp [vals, hx]

theorem Own.shape {w : World} {base : Nat} {v : Value} {l : List UInt8} (h : Own w base v l) : ∃ q c, v = .slice q l.length c := by
  obtain ⟨hlen, ⟨he, h0⟩ | ⟨g, cap, cur, he, _⟩⟩ := h
  · exact ⟨none, 0, by rw [he, h0]⟩
  · exact ⟨_, _, he⟩

theorem Own.made {w : World} {n : Nat} (hn : n ≤ maxLen) : Own (w.alloc (.cells (vals (zs n)).toArray 5)) w.heap.size (.slice (some ⟨w.heap.size, 0, none⟩) 0 n) [] :=
  World.ownsRow_made w _ n (Nat.le_refl _) hn (by simp [vals, zs])

theorem Own.kept {w w' : World} {base : Nat} {q : Option Addr} {n c : Nat} {l : List UInt8} (h : Own w base (.slice q n c) l) (hb : ∀ a, q = some a → w'.heap[a.block]? = w.heap[a.block]?) : Own w' base (.slice q n c) l := by
  obtain ⟨hlen, ⟨he, h0⟩ | ⟨g, cap, cur, he, hg, hh, r⟩⟩ := h
  · exact ⟨hlen, Or.inl ⟨he, h0⟩⟩
  · cases he
    exact ⟨hlen, Or.inr ⟨g, c, cur, rfl, hg, by rw [hb _ rfl]; exact hh, r⟩⟩

theorem Own.below {w w' : World} {base : Nat} {q : Option Addr} {n c : Nat} {l : List UInt8} (h : Own w base (.slice q n c) l) (hb : Below w.heap.size w w') : Own w' base (.slice q n c) l :=
  h.kept fun a ha => hb.block _ (h.holds.2.2 a ha).2

def blockOf (q : Option Addr) : Option Nat := q.map (·.block)

theorem run_append_bytes {w : World} {base : Nat} {q0 q : Option Addr} {n0 c0 m d : Nat} {l k : List UInt8} (ty : TypeId) (hown : Own w base (.slice q0 n0 c0) l) (hk : Lib.HoldsBytes w (.slice q m d) k) (hbig : n0 + m ≤ 1099511627776) (hbase : base ≤ w.heap.size) :
    ∃ q' c' w', (Builtin.append_ #[22, 22] ty #[.slice q0 n0 c0, .slice q m d]).run Tryd.prog w = .ok (.slice q' (n0 + m) c') w' ∧ Own w' base (.slice q' (n0 + m) c') (l ++ k) ∧ w.grownBy w' (blockOf q0) := by
  have e0 := holds_len hown.holds.1
  have em := holds_len hk
  obtain ⟨i0, hi, hz0, hz1, hz2⟩ := info_parts info5
  obtain ⟨q1, cap, he, h1, h2⟩ := hk
  cases he
  cases q with
  | none =>
    have hk0 := h1 rfl
    subst hk0
    simp only [List.length_nil, Nat.add_zero, List.append_nil]
    refine ⟨q0, c0, w, ?_, hown, ⟨rfl, rfl, rfl, Nat.le_refl _, fun _ _ _ => rfl⟩⟩
    cases q0 with
    | none =>
      obtain ⟨_, ⟨he, h0⟩ | ⟨g, cap, cur, he, _⟩⟩ := hown
      · cases he
        simp [Builtin.append_, run_underlying Tryd.underlying22, sizeOf, typeInfo, hi, Builtin.lenOf, Builtin.firstCells]
      · cases he
    | some a =>
      obtain ⟨_, ⟨he, h0⟩ | ⟨g, cap, cur, he, hg, hh, hle, _⟩⟩ := hown
      · cases he
      · cases he
        have h := run_append_room_src (P := Tryd.prog) w 22 22 ty 5 i0 Tryd.underlying22 hi g 0 _ _ (.slice none 0 d) 0 [] (Src.ofNil w Tryd.underlying22 d) (by omega) (by intro j hj; simp at hj) (by intro j hj; simp at hj)
        simpa [World.setCells] using h
  | some a =>
    subst e0
    obtain ⟨v', w', hr, hown', hg, _⟩ := run_append_own (P := Tryd.prog) w base 22 ty 5 i0 (.int .u8 0) 1 1 Tryd.underlying22 hi hz0 hz1 hz2 rfl (by decide) _ l.length (vals l) hown a k.length d (vals k)
      (by rw [length_vals, Nat.mul_one])
      (fun j u hj => by obtain ⟨x, hx, rfl⟩ := vals_get hj; exact h2 a rfl j x hx) (one_vals k) (by unfold maxLen; omega) (by omega) hbase
    have hown2 : Own w' base v' (l ++ k) := by
      unfold Own
      rw [List.length_append, vals_append]
      exact hown'
    obtain ⟨q', c', rfl⟩ := hown2.shape
    rw [List.length_append] at hr hown2
    refine ⟨q', c', w', hr, hown2, ?_⟩
    cases q0 <;> exact hg

theorem wpList_append_bytes {w : World} {ops : Array Oper} {rest : List Oper} {o : Oper} {a : Act} {Q : Exit → Act → World → Prop} (hgd : o.guard = none) (s x : Operand)
    (ho : o.op = .call { callee := .builtin .append, args := #[s, x], argTypes := #[22, 22] }) {base : Nat} {q0 q : Option Addr} {n0 c0 m d : Nat} {l k : List UInt8} (hs : a.eval s = .slice q0 n0 c0) (hx : a.eval x = .slice q m d)
    (hown : Own w base (.slice q0 n0 c0) l) (hk : Lib.HoldsBytes w (.slice q m d) k) (hbig : n0 + m ≤ 1099511627776) (hbase : base ≤ w.heap.size)
    (h : ∀ q' c' w', Own w' base (.slice q' (n0 + m) c') (l ++ k) → w.grownBy w' (blockOf q0) → wpList Tryd.prog ops Q rest (a.put o.dst (.slice q' (n0 + m) c')) w') : wpList Tryd.prog ops Q (o :: rest) a w := by
  obtain ⟨q', c', w', hr, h1, h2⟩ := run_append_bytes o.type hown hk hbig hbase
  exact Lib.wpList_append_run_sl w hgd s x 22 ho _ _ hs hx hr (h q' c' w' h1 h2)

theorem below_drew {B : Nat} (w : World) : Below B w w.drew := ⟨rfl, rfl, rfl, Nat.le_refl _, fun _ _ => rfl⟩

/-- append to a slice cut at its end: new memory -/
theorem run_append_cut {w : World} {p q : Option Addr} {n m d : Nat} {l k : List UInt8} (ty : TypeId) (hl : Lib.HoldsBytes w (.slice p n n) l) (hk : Lib.HoldsBytes w (.slice q m d) k) (hm : 0 < m) (hbig : n + m ≤ 1099511627776) :
    ∃ q' c' w', (Builtin.append_ #[22, 22] ty #[.slice p n n, .slice q m d]).run Tryd.prog w = .ok (.slice q' (n + m) c') w' ∧ Own w' w.heap.size (.slice q' (n + m) c') (l ++ k) ∧ Below w.heap.size w w' := by
  have e0 := holds_len hl
  have em := holds_len hk
  obtain ⟨i0, hi, hz0, hz1, hz2⟩ := info_parts info5
  obtain ⟨q1, cap, he, h1, h2⟩ := hk
  cases he
  cases q with
  | none => have hk0 := h1 rfl; subst hk0; simp at hm
  | some a =>
    have hnews : ∀ j u, (vals k)[j]? = some u → w.cell? (a.add j) = some u := fun j u hj => by obtain ⟨x, hx, rfl⟩ := vals_get hj; exact h2 a rfl j x hx
    cases p with
    | none =>
      have hl0 : l = [] := by obtain ⟨_, _, he, h3, _⟩ := hl; cases he; exact h3 rfl
      subst hl0
      subst e0
      have hown : w.ownsRow w.heap.size 5 1 (.slice none 0 0) 0 (vals []) := World.ownsRow_nil w w.heap.size 5 1
      obtain ⟨v', w', hr, hown', hg, _⟩ := run_append_own (P := Tryd.prog) w w.heap.size 22 ty 5 i0 (.int .u8 0) 1 1 Tryd.underlying22 hi hz0 hz1 hz2 rfl (by decide) _ 0 (vals []) hown a k.length d (vals k)
        (by rw [length_vals, Nat.mul_one]) hnews (one_vals k) (by unfold maxLen; omega) (by omega) (Nat.le_refl _)
      have hown2 : Own w' w.heap.size v' ([] ++ k) := by
        unfold Own
        rw [List.length_append, vals_append]
        exact hown'
      obtain ⟨q', c', rfl⟩ := hown2.shape
      rw [List.length_append] at hr hown2
      exact ⟨q', c', w', hr, hown2, (Below.refl _ _).grown hg (Nat.le_refl _) (fun j e => by simp [Value.ownBlock] at e)⟩
    | some b =>
      subst e0
      have hold : ∀ j u, (vals l)[j]? = some u → w.cell? (b.add j) = some u := fun j u hj => by
        obtain ⟨x, hx, rfl⟩ := vals_get hj
        obtain ⟨_, _, he, _, h4⟩ := hl
        cases he
        exact h4 b rfl j x hx
      have hr := run_append_grow (P := Tryd.prog) w 22 ty 5 i0 (.int .u8 0) Tryd.underlying22 hi hz0 b l.length l.length (vals l) (by rw [hz1, length_vals, Nat.mul_one]) hold a k.length d (vals k)
        (by rw [hz1, length_vals, Nat.mul_one]) hnews (by omega) (by omega) (growslice_fits (by omega) (by rw [hz2]; omega))
      have hge := grownCap_ge w (l.length + k.length) l.length 5
      have hcm : grownCap w (l.length + k.length) l.length 5 ≤ maxLen := grownCap_le_maxLen w _ _ _ (by unfold maxLen; omega)
      refine ⟨_, _, _, hr, ?_, ?_⟩
      · unfold Own
        rw [List.length_append, vals_append]
        refine ⟨by simp [vals], .inr ⟨w.heap.size, _, _, rfl, Nat.le_refl _, heap_alloc_new w.drew _, hge, hcm, ?_, ?_⟩⟩
        · simp [size_zeroCells, length_vals, Value.cells]; omega
        · simp only [Array.toList_append]
          exact List.take_left' (by simp [vals])
      · exact (below_drew w).alloc (Nat.le_refl _) _

theorem Own.mono {w : World} {b b' : Nat} {v : Value} {l : List UInt8} (h : Own w b v l) (hb : b' ≤ b) : Own w b' v l := by
  obtain ⟨hlen, hr | ⟨g, cap, cur, he, hg, hh, r⟩⟩ := h
  · exact ⟨hlen, .inl hr⟩
  · exact ⟨hlen, .inr ⟨g, cap, cur, he, Nat.le_trans hb hg, hh, r⟩⟩

theorem run_call_append {P : Program} {o : Oper} {a : Act} {w w' : World} {t1 t2 : TypeId} {x y : Operand} {u v r : Value} (ho : o.op = .call { callee := .builtin .append, args := #[x, y], argTypes := #[t1, t2] }) (hx : a.eval x = u) (hy : a.eval y = v)
    (h : (Builtin.append_ #[t1, t2] o.type #[u, v]).run P w = .ok r w') : (execOp a.eval o).run P w = .ok (.value r) w' := by
  subst hx
  subst hy
  unfold execOp
  simp only [ho, resolve, invoke, builtin, Sem.run_bind, Sem.run_pure, Result.andThen_ok, List.map_toArray, List.map_cons, List.map_nil, h]

set_option maxHeartbeats 1000000 in
theorem sign_any (p : Option Addr) (n c : Nat) (l : List UInt8) (w : World) (hL : Laid w) (hv : Lib.HoldsBytes w (.slice p n c) l) (hn : n ≤ 1000000) (hnc : n ≤ c) :
    Calls Tryd.prog 14 #[.slice p n c] w (fun e w' => ∃ q' c', e = .returned (.slice q' (n + 4) c') ∧ Own w' w.heap.size (.slice q' (n + 4) c') (l ++ le4 (crc l)) ∧ Below w.heap.size w w') := by
  have hb0 := Lib.hid (below_drew (B := w.heap.size) w)
  have hcl := Lib.hid (sum_any p n c l w.drew (hL.keep hb0.out hL.size) (holds_below hv hb0.out (Nat.le_refl _)) (by omega))
  have hv1 := Lib.hid hv
  clear hL hv
  go_enter Tryd.func14, Tryd.ntmps14
  go_wp2
  refine wp_region_held (S := fun _ => True) (by kernel_rfl) ?_
  change wpAnyH _ _ _ _ _ _ _ _ (World.drew w)
  refine held_take (i := 0) (dst := some 3) rfl rfl (by kernel_rfl) (by kernel_rfl) (by kernel_rfl) (fun _ _ _ h => h) (y_move (.tmp 0) rfl rfl rfl) trivial ?_
  go_frame
  refine held_take (i := 1) (dst := some 4) rfl rfl (by kernel_rfl) (by kernel_rfl) (by kernel_rfl) (fun _ _ _ h => h) (y_move (.tmp 0) rfl rfl rfl) trivial ?_
  go_frame
  refine held_take (i := 2) (dst := some 5) (v := .int .i64 n) rfl rfl (by kernel_rfl) (by kernel_rfl) (by kernel_rfl) (fun _ _ _ h => h) (.inl ⟨rfl, fun W _ => by go_simp⟩) trivial ?_
  go_frame
  refine held_take (i := 3) (dst := some 6) rfl rfl (by kernel_rfl) (by kernel_rfl) (by kernel_rfl) (fun _ _ _ h => h) (y_move (.tmp 0) rfl rfl rfl) trivial ?_
  go_frame
  refine held_take (i := 4) (dst := some 7) (v := .int .i64 n) rfl rfl (by kernel_rfl) (by kernel_rfl) (by kernel_rfl) (fun _ _ _ h => h) (.inl ⟨rfl, fun W _ => by go_simp⟩) trivial ?_
  go_frame
  refine held_take (i := 5) (dst := some 8) (v := .slice p n n) rfl rfl (by kernel_rfl) (by kernel_rfl) (by kernel_rfl) (fun _ _ _ h => h) (.inl ⟨rfl, fun W _ => by go_simp⟩) trivial ?_
  go_frame
  refine held_take (i := 6) (dst := some 9) rfl rfl (by kernel_rfl) (by kernel_rfl) (by kernel_rfl) (fun _ _ _ h => h) (y_move (.tmp 0) rfl rfl rfl) trivial ?_
  go_frame
  refine held_call (i := 7) (dst := some 10) rfl rfl (by kernel_rfl) rfl (by go_simp) hcl.out ?_
  rintro e w1 ⟨rfl, hb1⟩
  refine ⟨_, rfl, trivial, ?_⟩
  go_frame
  refine held_call (i := 8) (dst := some 11) rfl rfl (by kernel_rfl) rfl (by go_simp) (stand_any (crc l) w1) ?_
  rintro e w2 ⟨rfl, hr2, hb2⟩
  refine ⟨_, rfl, trivial, ?_⟩
  go_frame
  have hb3 := Lib.hid ((hb0.out.trans (show Below w.heap.size w.drew w1 from hb1)).trans (hb2.mono hb1.size))
  obtain ⟨q', c', w3, hrun, hown, hb⟩ := run_append_cut 22 (p := p) (n := n) (q := some ⟨w1.heap.size, 0, none⟩) (m := 4) (d := 4) (l := l) (k := le4 (crc l)) (w := w2)
    (by obtain ⟨_, _, he, h3, h4⟩ := holds_below hv1.out hb3.out (Nat.le_refl _)
        cases he
        exact ⟨_, _, rfl, h3, h4⟩) (hr2.holds 4) (by decide) (by omega)
  refine held_value (i := 9) (dst := some 12) (w' := w3) rfl rfl (by kernel_rfl) rfl (run_call_append rfl rfl rfl hrun) trivial ?_
  go_frame
  refine held_value (i := 10) (dst := some 2) (w' := w3) (v := .slice q' (n + 4) c') rfl rfl (by kernel_rfl) rfl (by go_simp) trivial ?_
  go_frame
  refine wpAnyH_done (by kernel_rfl) ?_ _
  go_wp2
  go_ret
  exact ⟨q', c', rfl, hown.mono hb3.out.size, hb3.out.trans (hb.mono hb3.out.size)⟩

end Go.Proofs.YthjmmnbfjahamaaDoor
