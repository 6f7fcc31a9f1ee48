/- few of the laws on ring, and what nothing tells (merged of three texts). -/
import Derived.Test.YtjhnagipagkhiaaGreatRAdd
import Derived.Test.YtjhnagipagkhiaaGreatRArg

/-! A slice of one-cell elements that can be read, and append of such a one onto a row of the call's own (for few). -/
namespace Go.Proofs.YtjhnagipagkhiaaGreat
open Go.RowKit

/-- a slice of one-cell elements that can be read -/
structure SlIn (w : World) (q : Option Addr) (n c : Nat) (ys : List Value) : Prop where
  len : ys.length = n
  le : n ≤ c
  one : ∀ v ∈ ys, v.oneCell' = true
  nil : q = none → n = 0 ∧ c = 0
  cell : ∀ a, q = some a → ∀ j u, ys[j]? = some u → w.cell? (a.add j) = some u
theorem SlIn.below {w w' : World} {q : Option Addr} {n c : Nat} {ys : List Value} (h : SlIn w q n c ys) (hb : Below w.heap.size w w') : SlIn w' q n c ys :=
  ⟨h.len, h.le, h.one, h.nil, fun a ha j u hu => (hb.cell (World.block_lt_of_cell? w _ (h.cell a ha j u hu))).trans (h.cell a ha j u hu)⟩
theorem SlIn.cut {w : World} {q : Option Addr} {n c : Nat} {ys : List Value} (h : SlIn w q n c ys) {k : Nat} (hk : k ≤ n) : SlIn w q k c (ys.take k) :=
  ⟨by rw [List.length_take, h.len]; omega, Nat.le_trans hk h.le, fun v hv => h.one v (List.mem_of_mem_take hv), fun hq => ⟨by have := (h.nil hq).1; omega, (h.nil hq).2⟩, fun a ha j u hu => by
    rw [List.getElem?_take] at hu
    split at hu
    · exact h.cell a ha j u hu
    · cases hu⟩

section
variable {P : Program} {w : World}
theorem run_append_s {t T : TypeId} {bytes : Nat} {z : Value} (ht : P.underlying t = some (.slice T)) (hi : (P.info? T).map (fun i => (i.zero, i.size, i.bytes)) = some (some z, 1, bytes)) (hz : z.cells.size = 1) (ty : TypeId)
    {base : Nat} {q0 : Option Addr} {n0 c0 : Nat} {xs : List Value} {q : Option Addr} {m d : Nat} {ys : List Value} (hown : OwnV T w base (.slice q0 n0 c0) xs) (hr : SlIn w q m d ys) (hbig : (n0 + m) * bytes ≤ 140737488355328) (hbig2 : n0 + m ≤ 140737488355328) (hbase : base ≤ w.heap.size) :
    ∃ q' c' w', (Builtin.append_ #[t, t] ty #[.slice q0 n0 c0, .slice q m d]).run P w = .ok (.slice q' (n0 + m) c') w' ∧ OwnV T w' base (.slice q' (n0 + m) c') (xs ++ ys) ∧ w.grownBy w' (q0.map (·.block)) ∧ (q'.map (·.block) = q0.map (·.block) ∨ q'.map (·.block) = some w.heap.size) := by
  obtain ⟨i0, hi0, hz0, hz1, hz2⟩ := info_parts hi
  have hl := hown.len
  have hm := hr.len
  subst hl
  cases q with
  | none =>
    have h0 : m = 0 := (hr.nil rfl).1
    subst h0
    obtain rfl := List.eq_nil_of_length_eq_zero hm
    refine ⟨q0, c0, w, ?_, by simpa using hown, ⟨rfl, rfl, rfl, Nat.le_refl _, fun _ _ _ => rfl⟩, .inl rfl⟩
    obtain ⟨hlen, ⟨he, h0⟩ | ⟨g, cap, cur, he, hg, hh, hle, hm2, r⟩⟩ := hown
    · simp only [Value.slice.injEq] at he
      obtain ⟨rfl, h1, rfl⟩ := he
      simp [Builtin.append_, run_underlying ht, sizeOf, typeInfo, hi0, Builtin.lenOf, Builtin.firstCells, h1]
    · simp only [Value.slice.injEq] at he
      obtain ⟨rfl, _, rfl⟩ := he
      simp [Builtin.append_, run_underlying ht, sizeOf, typeInfo, hi0, Builtin.lenOf, Builtin.firstCells, hle, storeCells]
  | some ad =>
    obtain ⟨v', w', hrun, hown', hg, _, hat⟩ := run_append_own_at (P := P) w base t ty T i0 z 1 bytes ht hi0 hz0 hz1 hz2 hz (by decide) _ xs.length xs hown ad m d ys (by rw [hm, Nat.mul_one]) (hr.cell ad rfl) hr.one (by unfold maxLen; omega) hbig hbase
    have hown2 : OwnV T w' base v' (xs ++ ys) := by
      unfold OwnV
      rw [List.length_append, hm]
      exact hown'
    obtain ⟨q', c', rfl⟩ := hown2.shape
    rw [List.length_append, hm] at hrun hown2
    exact ⟨q', c', w', hrun, hown2, by cases q0 <;> exact hg, by cases q0 <;> cases q' <;> exact hat⟩

theorem wpList_append_s {t T : TypeId} {bytes : Nat} {z : Value} (ht : P.underlying t = some (.slice T)) (hi : (P.info? T).map (fun i => (i.zero, i.size, i.bytes)) = some (some z, 1, bytes)) (hz : z.cells.size = 1)
    {ops : Array Oper} {rest : List Oper} {o : Oper} {a : Act} {Q : Exit → Act → World → Prop} (hgd : o.guard = none) (sl x : Operand)
    (ho : o.op = .call { callee := .builtin .append, args := #[sl, x], argTypes := #[t, t] }) {base : Nat} {q0 : Option Addr} {n0 c0 m d : Nat} {xs ys : List Value} {q : Option Addr} (hsl : a.eval sl = .slice q0 n0 c0) (hx : a.eval x = .slice q m d)
    (hown : OwnV T w base (.slice q0 n0 c0) xs) (hr : SlIn w q m d ys) (hbig : (n0 + m) * bytes ≤ 140737488355328) (hbig2 : n0 + m ≤ 140737488355328) (hbase : base ≤ w.heap.size)
    (h : ∀ q' c' w', OwnV T w' base (.slice q' (n0 + m) c') (xs ++ ys) → w.grownBy w' (q0.map (·.block)) → (q'.map (·.block) = q0.map (·.block) ∨ q'.map (·.block) = some w.heap.size) → wpList P ops Q rest (a.put o.dst (.slice q' (n0 + m) c')) w') : wpList P ops Q (o :: rest) a w := by
  obtain ⟨q', c', w', hrun, h1, h2, h3⟩ := run_append_s ht hi hz o.type hown hr hbig hbig2 hbase
  exact Lib.wpList_append_run_sl w hgd sl x t ho _ _ hsl hx hrun (h q' c' w' h1 h2 h3)
end

theorem infoBool : (Tryz.prog.info? 4).map (fun i => (i.zero, i.size, i.bytes)) = some (some (.bool false), 1, 1) := by kernel_rfl
theorem own_made (W : World) (T : TypeId) (B : Nat) (hB : B = W.heap.size) : OwnV T (W.alloc (.cells #[] T)) B (.slice (some ⟨B, 0, none⟩) 0 0) [] := by
  subst hB
  exact World.ownsRow_made W #[] 0 (Nat.le_refl _) (Nat.zero_le _) rfl

end Go.Proofs.YtjhnagipagkhiaaGreat

/-! few of the laws on ring: an event in memory of its own. -/
namespace Go.Proofs.YtjhnagipagkhiaaGreat
open Go.RowKit

set_option maxRecDepth 100000 in
theorem slice_b1 (p : Option Addr) (n c k : Nat) (hk : k ≤ n) (hn : n ≤ c) (u : World) : (Instr.slice 30 (.slice p n c) none (some (.int .i64 (k : Int))) none).run Tryz.prog u = .ok (.slice p k c) u := by
  have h := run_slice_h (P := Tryz.prog) u 30 p n c (by kernel_rfl) .i64 (k : Int) (by omega) (by omega)
  rw [h, show (sizeOf (Tryz.prog.elem 30)).run Tryz.prog u = .ok 1 u by kernel_rfl]
  simp only [Result.andThen, sliced, Int.toNat_natCast, Nat.zero_mul, Nat.sub_zero]
  congr 2
  split
  · rfl
  · cases p <;> simp [Addr.add]
set_option maxRecDepth 100000 in
theorem slice_b2 (p : Option Addr) (n c k : Nat) (hk : k ≤ n) (hn : n ≤ c) (u : World) : (Instr.slice 40 (.slice p n c) none (some (.int .i64 (k : Int))) none).run Tryz.prog u = .ok (.slice p k c) u := by
  have h := run_slice_h (P := Tryz.prog) u 40 p n c (by kernel_rfl) .i64 (k : Int) (by omega) (by omega)
  rw [h, show (sizeOf (Tryz.prog.elem 40)).run Tryz.prog u = .ok 1 u by kernel_rfl]
  simp only [Result.andThen, sliced, Int.toNat_natCast, Nat.zero_mul, Nat.sub_zero]
  congr 2
  split
  · rfl
  · cases p <;> simp [Addr.add]
theorem sizeEv (a b c d e : Value) : (Tryz.prog.info? 42).map (·.size) = some [a, b, c, d, e].length := by kernel_rfl
theorem one_ev (a b : Int) (q1 : Option Addr) (n1 c1 : Nat) (q2 : Option Addr) (n2 c2 : Nat) (q3 : Option Addr) (n3 c3 : Nat) : ∀ v ∈ ([.int .i64 a, .int .i64 b, .slice q1 n1 c1, .slice q2 n2 c2, .slice q3 n3 c3] : List Value), v.oneCell' = true := by
  intro v hv
  simp only [List.mem_cons, List.not_mem_nil, or_false] at hv
  rcases hv with rfl | rfl | rfl | rfl | rfl <;> rfl
theorem grown_lowE {w u v : World} {q : Option Nat} (h0 : Below w.heap.size w u) (h : u.grownBy v q) (hq : ∀ k, q = some k → w.heap.size ≤ k) : Below w.heap.size w v :=
  h0.trans ⟨h.os, h.tape, h.output, h.size, fun k hk => h.block k (Nat.lt_of_lt_of_le hk h0.size) (fun e => by have := hq k e.symm; omega)⟩

set_option maxRecDepth 100000 in
set_option maxHeartbeats 4000000 in
theorem few_any (k n : Int) (q1 : Option Addr) (n1 c1 : Nat) (ys1 : List Value) (q2 : Option Addr) (n2 c2 : Nat) (ys2 : List Value) (q3 : Option Addr) (n3 c3 : Nat) (ys3 : List Value) (w : World) (h1 : SlIn w q1 n1 c1 ys1) (h2 : SlIn w q2 n2 c2 ys2) (h3 : SlIn w q3 n3 c3 ys3) :
    Calls Tryz.prog 17 #[.agg #[.int .i64 k, .int .i64 n, .slice q1 n1 c1, .slice q2 n2 c2, .slice q3 n3 c3]] w (fun e w' => ∃ p1 m1 d1 p2 m2 d2 p3 m3 d3, e = .returned (.agg #[.int .i64 k, .int .i64 n, .slice p1 m1 d1, .slice p2 m2 d2, .slice p3 m3 d3]) ∧ Below w.heap.size w w') := by
  obtain ⟨k1, hk1⟩ : ∃ k1, min n1 400 = k1 := ⟨_, rfl⟩
  obtain ⟨k2, hk2⟩ : ∃ k2, min n2 33 = k2 := ⟨_, rfl⟩
  obtain ⟨k3, hk3⟩ : ∃ k3, min n3 40 = k3 := ⟨_, rfl⟩
  have hm1 : min (n1 : Int) 400 = (k1 : Nat) := by omega
  have hm2 : min (n2 : Int) 33 = (k2 : Nat) := by omega
  have hm3 : min (n3 : Int) 40 = (k3 : Nat) := by omega
  have l1 : k1 ≤ 400 := by omega
  have l2 : k2 ≤ 33 := by omega
  have l3 : k3 ≤ 40 := by omega
  have x1 := fun u => slice_b1 q1 n1 c1 k1 (by omega) h1.le u
  have x2 := fun u => slice_b1 q2 n2 c2 k2 (by omega) h2.le u
  have x3 := fun u => slice_b2 q3 n3 c3 k3 (by omega) h3.le u
  have s1 := Lib.hid (h1.cut (k := k1) (by omega))
  have s2 := Lib.hid (h2.cut (k := k2) (by omega))
  have s3 := Lib.hid (h3.cut (k := k3) (by omega))
  clear h1 h2 h3 hk1 hk2 hk3
  obtain ⟨u0, hu0⟩ : ∃ u, (w.alloc (.cells #[.int .i64 k, .int .i64 n, .slice q1 n1 c1, .slice q2 n2 c2, .slice q3 n3 c3] 42)).alloc (.cells #[.int .i64 0, .int .i64 0, .slice none 0 0, .slice none 0 0, .slice none 0 0] 42) = u := ⟨_, rfl⟩
  obtain ⟨u1, hu1⟩ : ∃ u, u0.alloc (.cells #[] 5) = u := ⟨_, rfl⟩
  have hd0 : Hid (Below w.heap.size w u0 ∧ u0.heap.size = w.heap.size + 2) := by
    rw [← hu0]
    exact ⟨((Below.refl _ _).alloc (Nat.le_refl _) _).alloc (by simp) _, by simp⟩
  have bx0 : Hid (RowV 42 u0 w.heap.size [.int .i64 k, .int .i64 n, .slice q1 n1 c1, .slice q2 n2 c2, .slice q3 n3 c3]) := by
    show RowV _ _ _ _
    rw [← hu0]
    exact (RowV.made (T := 42) w [.int .i64 k, .int .i64 n, .slice q1 n1 c1, .slice q2 n2 c2, .slice q3 n3 c3]).below ((Below.refl _ _).alloc (Nat.le_refl _) _)
  have rs0 : Hid (RowV 42 u0 (w.heap.size + 1) [.int .i64 0, .int .i64 0, .slice none 0 0, .slice none 0 0, .slice none 0 0]) := by
    have h0 := RowV.made (T := 42) (w.alloc (.cells #[.int .i64 k, .int .i64 n, .slice q1 n1 c1, .slice q2 n2 c2, .slice q3 n3 c3] 42)) [.int .i64 0, .int .i64 0, .slice none 0 0, .slice none 0 0, .slice none 0 0]
    show RowV _ _ _ _
    rw [← hu0]; simpa using h0
  have dd1 : Hid (Below u0.heap.size u0 u1) := by rw [← hu1]; exact (Below.refl _ _).alloc (Nat.le_refl _) _
  have hd1 : Hid (Below w.heap.size w u1) := hd0.out.1.trans (dd1.out.mono hd0.out.1.size)
  have lt1 : Hid (w.heap.size + 2 ≤ u0.heap.size ∧ u0.heap.size ≤ u1.heap.size) := ⟨by have := hd0.out.2; omega, dd1.out.size⟩
  have ho1 : Hid (OwnV 5 u1 u0.heap.size (.slice (some ⟨u0.heap.size, 0, none⟩) 0 0) []) := by rw [← hu1]; exact own_made u0 _ _ rfl
  have bx1 := Lib.hid (bx0.out.below dd1.out)
  have rs1 := Lib.hid (rs0.out.below dd1.out)
  have sl1 := Lib.hid (s1.out.below hd1.out)
  have e1 := bx1.out.cell 2
  simp only [List.getElem?_cons_zero, List.getElem?_cons_succ] at e1
  go_enter Tryz.func17, Tryz.ntmps17
  go_wp2_with (first
    | (at_builtin
       refine wpList_append_s Tryz.underlying30 info5 rfl rfl (.tmp 3) (.tmp 10) rfl rfl rfl ho1.out sl1.out (by omega) (by omega) lt1.out.2 ?_
       intro p1 d1 v1 _ hg1 _
       rw [Nat.zero_add]
       have hv1 := Lib.hid (grown_lowE hd1.out hg1 (fun a ha => by cases ha; have := lt1.out.1; show w.heap.size ≤ u0.heap.size; omega))
       have bv1 := Lib.hid (bx1.out.kept (k := u0.heap.size) hg1 (by have := lt1.out.1; show w.heap.size ≠ u0.heap.size; omega))
       have rv1 := Lib.hid (rs1.out.kept (k := u0.heap.size) hg1 (by have := lt1.out.1; show w.heap.size + 1 ≠ u0.heap.size; omega))
       have lv1 : Hid (w.heap.size + 2 ≤ v1.heap.size) := by have h1 := lt1.out; have h2 := hg1.size; show _ ≤ _; omega
       clear hg1 e1
       have a1 := bv1.out.cell 2
       have b1 := bv1.out.free 2
       simp only [List.getElem?_cons_zero, List.getElem?_cons_succ] at a1
       obtain ⟨y1, hy1⟩ : ∃ y, v1.setCell ⟨w.heap.size, 2, none⟩ (.slice p1 k1 d1) = y := ⟨_, rfl⟩
       have gy1 : Hid (v1.grownBy y1 (some w.heap.size)) := by rw [← hy1]; exact setCell_grown _ _ _ _
       have bz1 : Hid (RowV 42 y1 w.heap.size [.int .i64 k, .int .i64 n, .slice p1 k1 d1, .slice q2 n2 c2, .slice q3 n3 c3]) := by have h := bv1.out.set 2 (.slice p1 k1 d1); rw [hy1] at h; exact h
       have ry1 := Lib.hid (rv1.out.kept gy1.out (by omega))
       have hdy1 := Lib.hid (grown_lowE hv1.out gy1.out (fun a ha => by cases ha; exact Nat.le_refl _))
       have ly1 : Hid (w.heap.size + 2 ≤ y1.heap.size) := by have h1 := lv1.out; have h2 := gy1.out.size; show _ ≤ _; omega
       obtain ⟨u2, hu2⟩ : ∃ u, y1.alloc (.cells #[] 5) = u := ⟨_, rfl⟩
       have dd2 : Hid (Below y1.heap.size y1 u2) := by rw [← hu2]; exact (Below.refl _ _).alloc (Nat.le_refl _) _
       have hd2 : Hid (Below w.heap.size w u2) := hdy1.out.trans (dd2.out.mono hdy1.out.size)
       have lt2 : Hid (w.heap.size + 2 ≤ y1.heap.size ∧ y1.heap.size ≤ u2.heap.size) := ⟨ly1.out, dd2.out.size⟩
       have ho2 : Hid (OwnV 5 u2 y1.heap.size (.slice (some ⟨y1.heap.size, 0, none⟩) 0 0) []) := by rw [← hu2]; exact own_made y1 _ _ rfl
       have bx2 := Lib.hid (bz1.out.below dd2.out)
       have rs2 := Lib.hid (ry1.out.below dd2.out)
       have sl2 := Lib.hid (s2.out.below hd2.out)
       have e2 := bx2.out.cell 3
       simp only [List.getElem?_cons_zero, List.getElem?_cons_succ] at e2)
    | (at_builtin
       refine wpList_append_s Tryz.underlying30 info5 rfl rfl (.tmp 13) (.tmp 20) rfl rfl rfl ho2.out sl2.out (by omega) (by omega) lt2.out.2 ?_
       intro p2 d2 v2 _ hg2 _
       rw [Nat.zero_add]
       have hv2 := Lib.hid (grown_lowE hd2.out hg2 (fun a ha => by cases ha; have := lt2.out.1; show w.heap.size ≤ y1.heap.size; omega))
       have bv2 := Lib.hid (bx2.out.kept (k := y1.heap.size) hg2 (by have := lt2.out.1; show w.heap.size ≠ y1.heap.size; omega))
       have rv2 := Lib.hid (rs2.out.kept (k := y1.heap.size) hg2 (by have := lt2.out.1; show w.heap.size + 1 ≠ y1.heap.size; omega))
       have lv2 : Hid (w.heap.size + 2 ≤ v2.heap.size) := by have h1 := lt2.out; have h2 := hg2.size; show _ ≤ _; omega
       clear hg2 e2
       have a2 := bv2.out.cell 3
       have b2 := bv2.out.free 3
       simp only [List.getElem?_cons_zero, List.getElem?_cons_succ] at a2
       obtain ⟨y2, hy2⟩ : ∃ y, v2.setCell ⟨w.heap.size, 3, none⟩ (.slice p2 k2 d2) = y := ⟨_, rfl⟩
       have gy2 : Hid (v2.grownBy y2 (some w.heap.size)) := by rw [← hy2]; exact setCell_grown _ _ _ _
       have bz2 : Hid (RowV 42 y2 w.heap.size [.int .i64 k, .int .i64 n, .slice p1 k1 d1, .slice p2 k2 d2, .slice q3 n3 c3]) := by have h := bv2.out.set 3 (.slice p2 k2 d2); rw [hy2] at h; exact h
       have ry2 := Lib.hid (rv2.out.kept gy2.out (by omega))
       have hdy2 := Lib.hid (grown_lowE hv2.out gy2.out (fun a ha => by cases ha; exact Nat.le_refl _))
       have ly2 : Hid (w.heap.size + 2 ≤ y2.heap.size) := by have h1 := lv2.out; have h2 := gy2.out.size; show _ ≤ _; omega
       obtain ⟨u3, hu3⟩ : ∃ u, y2.alloc (.cells #[] 4) = u := ⟨_, rfl⟩
       have dd3 : Hid (Below y2.heap.size y2 u3) := by rw [← hu3]; exact (Below.refl _ _).alloc (Nat.le_refl _) _
       have hd3 : Hid (Below w.heap.size w u3) := hdy2.out.trans (dd3.out.mono hdy2.out.size)
       have lt3 : Hid (w.heap.size + 2 ≤ y2.heap.size ∧ y2.heap.size ≤ u3.heap.size) := ⟨ly2.out, dd3.out.size⟩
       have ho3 : Hid (OwnV 4 u3 y2.heap.size (.slice (some ⟨y2.heap.size, 0, none⟩) 0 0) []) := by rw [← hu3]; exact own_made y2 _ _ rfl
       have bx3 := Lib.hid (bz2.out.below dd3.out)
       have rs3 := Lib.hid (ry2.out.below dd3.out)
       have sl3 := Lib.hid (s3.out.below hd3.out)
       have e3 := bx3.out.cell 4
       simp only [List.getElem?_cons_zero, List.getElem?_cons_succ] at e3)
    | (at_builtin
       refine wpList_append_s Tryz.underlying40 infoBool rfl rfl (.tmp 23) (.tmp 30) rfl rfl rfl ho3.out sl3.out (by omega) (by omega) lt3.out.2 ?_
       intro p3 d3 v3 _ hg3 _
       rw [Nat.zero_add]
       have hv3 := Lib.hid (grown_lowE hd3.out hg3 (fun a ha => by cases ha; have := lt3.out.1; show w.heap.size ≤ y2.heap.size; omega))
       have bv3 := Lib.hid (bx3.out.kept (k := y2.heap.size) hg3 (by have := lt3.out.1; show w.heap.size ≠ y2.heap.size; omega))
       have rv3 := Lib.hid (rs3.out.kept (k := y2.heap.size) hg3 (by have := lt3.out.1; show w.heap.size + 1 ≠ y2.heap.size; omega))
       have lv3 : Hid (w.heap.size + 2 ≤ v3.heap.size) := by have h1 := lt3.out; have h2 := hg3.size; show _ ≤ _; omega
       clear hg3 e3
       have a3 := bv3.out.cell 4
       have b3 := bv3.out.free 4
       simp only [List.getElem?_cons_zero, List.getElem?_cons_succ] at a3
       obtain ⟨y3, hy3⟩ : ∃ y, v3.setCell ⟨w.heap.size, 4, none⟩ (.slice p3 k3 d3) = y := ⟨_, rfl⟩
       have gy3 : Hid (v3.grownBy y3 (some w.heap.size)) := by rw [← hy3]; exact setCell_grown _ _ _ _
       have bz3 : Hid (RowV 42 y3 w.heap.size [.int .i64 k, .int .i64 n, .slice p1 k1 d1, .slice p2 k2 d2, .slice p3 k3 d3]) := by have h := bv3.out.set 4 (.slice p3 k3 d3); rw [hy3] at h; exact h
       have ry3 := Lib.hid (rv3.out.kept gy3.out (by omega))
       have hdy3 := Lib.hid (grown_lowE hv3.out gy3.out (fun a ha => by cases ha; exact Nat.le_refl _))
       have ly3 : Hid (w.heap.size + 2 ≤ y3.heap.size) := by have h1 := lv3.out; have h2 := gy3.out.size; show _ ≤ _; omega
       have s9 := sizeEv (.int .i64 k) (.int .i64 n) (.slice p1 k1 d1) (.slice p2 k2 d2) (.slice p3 k3 d3)
       have al : Hid (∀ j' x, ([.int .i64 k, .int .i64 n, .slice p1 k1 d1, .slice p2 k2 d2, .slice p3 k3 d3] : List Value)[j']? = some x → y3.cell? ((⟨w.heap.size, 0, none⟩ : Addr).add j') = some x) := bz3.out.part (pre := []) (rest := []) (by simp) rfl)
    | (with_reducible refine wpList_load_at rfl 42 (.tmp 1) rfl Tryz.underlying42 rfl s9 rfl al.out ?_)
    | ((with_reducible refine wpList_store_at rfl 42 (.tmp 2) (.tmp 33) rfl (o := 0) (vs := [.int .i64 k, .int .i64 n, .slice p1 k1 d1, .slice p2 k2 d2, .slice p3 k3 d3]) rfl rfl ry3.out s9 (Nat.le_refl _) (one_ev _ _ _ _ _ _ _ _ _ _ _) ?_)
       intro w9 h9 hg9
       have q9 := Lib.hid h9
       have hg9' := Lib.hid hg9
       clear h9 hg9))
  have s9 : RowV 42 w9 (w.heap.size + 1) [.int .i64 k, .int .i64 n, .slice p1 k1 d1, .slice p2 k2 d2, .slice p3 k3 d3] := q9.out
  have m0 := s9.cell 0
  have m1 := s9.cell 1
  have m2 := s9.cell 2
  have m3 := s9.cell 3
  have m4 := s9.cell 4
  simp only [List.getElem?_cons_zero, List.getElem?_cons_succ] at m0 m1 m2 m3 m4
  exact bodyPost_ret (v := .agg #[.int .i64 k, .int .i64 n, .slice p1 k1 d1, .slice p2 k2 d2, .slice p3 k3 d3]) (by simp [results, Tryz.results17, go_sem, m0, m1, m2, m3, m4]) rfl ⟨⟨p1, k1, d1, p2, k2, d2, p3, k3, d3, rfl⟩, grown_lowE hdy3.out hg9'.out (fun a ha => by cases ha; omega)⟩
end Go.Proofs.YtjhnagipagkhiaaGreat

/-! What nothing tells: each method of a ring that is not there, Format and Open over no disk. -/
namespace Go.Proofs.YtjhnagipagkhiaaGreat
open Go.RowKit

theorem format_nil (n : Int) (w : World) : Calls Tryz.prog 13 #[.pointer none, .int .i64 n] w (fun e w' => e = .returned (.tuple #[.pointer none, .int .i64 1]) ∧ Below w.heap.size w w') := by
  go_enter Tryz.func13, Tryz.ntmps13
  go_wp2
  first | go_ret | go_ret2
  exact ⟨rfl, by go_grown⟩
theorem open_nil (w : World) : Calls Tryz.prog 14 #[.pointer none] w (fun e w' => e = .returned (.tuple #[.pointer none, .int .i64 1]) ∧ Below w.heap.size w w') := by
  go_enter Tryz.func14, Tryz.ntmps14
  go_wp2
  first | go_ret | go_ret2
  exact ⟨rfl, by go_grown⟩
theorem append_nil (v : Value) (w : World) : Calls Tryz.prog 18 #[.pointer none, v] w (fun e w' => e = .returned (.int .i64 1) ∧ Below w.heap.size w w') := by
  go_enter Tryz.func18, Tryz.ntmps18
  go_wp2
  go_ret
  exact ⟨rfl, by go_grown⟩
theorem cut_nil (n : Int) (v : Value) (w : World) : Calls Tryz.prog 19 #[.pointer none, .int .i64 n, v] w (fun e w' => e = .returned (.int .i64 1) ∧ Below w.heap.size w w') := by
  go_enter Tryz.func19, Tryz.ntmps19
  go_wp2
  go_ret
  exact ⟨rfl, by go_grown⟩
theorem first_nil (w : World) : Calls Tryz.prog 20 #[.pointer none] w (fun e w' => e = .returned (.int .u64 0) ∧ Below w.heap.size w w') := by
  go_enter Tryz.func20, Tryz.ntmps20
  go_wp2
  go_ret
  exact ⟨rfl, by go_grown⟩
theorem all_nil (w : World) : Calls Tryz.prog 21 #[.pointer none] w (fun e w' => e = .returned (.slice none 0 0) ∧ Below w.heap.size w w') := by
  go_enter Tryz.func21, Tryz.ntmps21
  go_wp2
  go_ret
  exact ⟨rfl, by go_grown⟩
theorem note_nil (w : World) : Calls Tryz.prog 22 #[.pointer none] w (fun e w' => e = .returned (.slice none 0 0) ∧ Below w.heap.size w w') := by
  go_enter Tryz.func22, Tryz.ntmps22
  go_wp2
  go_ret
  exact ⟨rfl, by go_grown⟩
theorem left_nil (w : World) : Calls Tryz.prog 23 #[.pointer none] w (fun e w' => e = .returned (.int .i64 0) ∧ Below w.heap.size w w') := by
  go_enter Tryz.func23, Tryz.ntmps23
  go_wp2
  go_ret
  exact ⟨rfl, by go_grown⟩
theorem broken_nil (w : World) : Calls Tryz.prog 24 #[.pointer none] w (fun e w' => e = .returned (.bool false) ∧ Below w.heap.size w w') := by
  go_enter Tryz.func24, Tryz.ntmps24
  go_wp2
  go_ret
  exact ⟨rfl, by go_grown⟩

end Go.Proofs.YtjhnagipagkhiaaGreat
