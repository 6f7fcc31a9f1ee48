/- Parts of the proof: search of row: a binary search by sort.Search with a closure; Rows of the call's own: append, append of a make, copy and clear, as laws for the walk; nothing of a program is claimed here; spliced of row: a copy of a list, of whose rows some have given way to others; slices.Insert of one row into a list of the call's own -/
import Derived.Test.YtkdkncbccofpdaaQ02
import Derived.Maps.AppendAt
import Derived.Lib.AppendZerosOnto
import Derived.Lib.SlBuf
import Derived.Lib.Overlaps
import Derived.Laws.Externs
import Derived.Lib.SliceRun
namespace Go.Proofs.Ytkdkncbccofpdaa
open Go.RowKit
structure SrcRel (W wr : World) (n : Nat) (P : Nat → Bool) (i j : Nat) : Prop where
 below : Below W.heap.size W wr
 le : i ≤ j
 top : j ≤ n
 lo : ∀ m, i = m + 1 → P m = false
 hi : j < n → P j = true
set_option maxRecDepth 100000 in
set_option maxHeartbeats 2000000 in
theorem sortSearch_any (n : Nat) (P : Nat → Bool) (p1 p2 : Value) (W : World) (hn : n ≤ 4611686018427387904)
 (hf : ∀ i u, i < n → Below W.heap.size W u → Calls Try.prog 98 #[.int .i64 i, p1, p2] u (fun e w' => e = .returned (.bool (P i)) ∧ Below u.heap.size u w')) :
 Calls Try.prog 97 #[.int .i64 n, .func (.func 98) #[] #[p1, p2]] W (fun e w' => ∃ j : Nat, e = .returned (.int .i64 j) ∧ j ≤ n ∧ (∀ m, j = m + 1 → P m = false) ∧ (j < n → P j = true) ∧ Below W.heap.size W w') := by
 have hf' := Lib.hid hf
 clear hf
 go_enter Try.func97, Try.ntmps97
 go_wp2
 go_loopw [5, 6] (fun v5 v6 wr => ∃ i j : Nat, v5 = .int .i64 i ∧ v6 = .int .i64 j ∧ Hid (SrcRel W wr n P i j)) (fun v5 v6 _ => (intOf v6).toNat - (intOf v5).toNat)
 case atStart => exact ⟨0, n, rfl, rfl, Below.refl _ _, Nat.zero_le _, Nat.le_refl _, (fun m h => by omega), fun h => absurd h (Nat.lt_irrefl _)⟩
 case round =>
  obtain ⟨i, j, rfl, rfl, hr⟩ := hrel
  have hij := hr.out.le
  have hjn := hr.out.top
  by_cases hlt : i < j
  · have i0 : (0 : Int) ≤ (i : Int) + j := by omega
    have i1 : (i : Int) + j < 9223372036854775808 := by omega
    obtain ⟨H, hH⟩ : ∃ H : Nat, ((i : Int) + j) / 2 = H := ⟨(i + j) / 2, by omega⟩
    have hH1 : i ≤ H := by omega
    have hH2 : H < j := by omega
    have hc := Lib.hid (hf'.out H wr (by omega) hr.out.below)
    obtain ⟨b, hb⟩ : ∃ b, P H = b := ⟨_, rfl⟩
    rw [hb] at hc
    have hb' := Lib.hid hb
    clear hb
    cases b with
    | false =>
      go_wp2_with (first | (go_at_call 98; refine hc.out.mono ?_; rintro e w2 ⟨rfl, hb2⟩; have hb3 := Lib.hid (hr.out.below.trans (hb2.mono hr.out.below.size)); clear hb2))
      go_roundw
      case rel => exact ⟨H + 1, j, by go_num, rfl, hb3.out, by omega, hjn, (fun m hm => (show H = m by omega) ▸ hb'.out), hr.out.hi⟩
      case measure => simp [intOf]; omega
    | true =>
      go_wp2_with (first | (go_at_call 98; refine hc.out.mono ?_; rintro e w2 ⟨rfl, hb2⟩; have hb3 := Lib.hid (hr.out.below.trans (hb2.mono hr.out.below.size)); clear hb2))
      go_roundw
      case rel => exact ⟨i, H, rfl, rfl, hb3.out, hH1, by omega, hr.out.lo, fun _ => hb'.out⟩
      case measure => simp [intOf]; omega
  · obtain rfl : i = j := by omega
    go_wp2
    go_ret
    exact ⟨i, rfl, hjn, hr.out.lo, hr.out.hi, hr.out.below⟩
/-- what the closure says of the row at i -/
def geB (l : List RowD) (k : KeyD) (i : Nat) : Bool := match l[i]? with
 | some r => decide (0 ≤ cmpK r.key k)
 | none => false
set_option maxRecDepth 100000 in
set_option maxHeartbeats 2000000 in
theorem searchFn_any (g : Nat) (q : Option Addr) (n c : Nat) (l : List RowD) (t id : Int) (i : Nat) (W : World) (hr : RowsOn W q n c l) (h1 : Boxed W g [.slice q n c]) (h2 : Boxed W (g + 1) [.int .i64 t, .int .u16 id]) (hi : i < n) :
 Calls Try.prog 98 #[.int .i64 i, .pointer (some ⟨g, 0, none⟩), .pointer (some ⟨g + 1, 0, none⟩)] W (fun e w' => e = .returned (.bool (geB l ⟨t, id⟩ i)) ∧ Below W.heap.size W w') := by
 have hm := Nat.le_trans hr.le hr.cap
 unfold maxLen at hm
 obtain ⟨a, ⟨⟨pt, pid⟩, pv, ps⟩, rfl, hx, hok, hc⟩ := hr.at hi
 have hv : geB l ⟨t, id⟩ i = decide (0 ≤ cmpK ⟨pt, pid⟩ ⟨t, id⟩) := by unfold geB; rw [hx]
 rw [hv]
 have hcmp := Lib.hid (fun u => compare_any ⟨pt, pid⟩ ⟨t, id⟩ u)
 obtain ⟨x, hxx⟩ : ∃ x, cmpK ⟨pt, pid⟩ ⟨t, id⟩ = x := ⟨_, rfl⟩
 rw [hxx] at hcmp ⊢
 have c0 := h1.cell 0 rfl
 have c1 := h2.cell 0 rfl
 have c2 := h2.cell 1 rfl
 have c3 : W.cell? (a.add (i * 4)) = some (.int .i64 pt) := by have h := hc 0 _ rfl; rwa [add0] at h
 have c4 : W.cell? ⟨(a.add (i * 4)).block, (a.add (i * 4)).off + 1, none⟩ = some (.int .u16 pid) := hc 1 _ rfl
 have i0 : (0 : Int) ≤ i := by omega
 have i1 : (i : Int) < n := by omega
 clear hv hxx hx hok hc hr h1 h2 hm
 go_enter Try.func98, Try.ntmps98
 go_wp2_with fail
 go_region_held3 (fun u => u.cell? ⟨g, 0, none⟩ = some (.slice (some a) n c) ∧ u.cell? ⟨g + 1, 0, none⟩ = some (.int .i64 t) ∧ u.cell? ⟨g + 1, 1, none⟩ = some (.int .u16 id) ∧ u.cell? (a.add (i * 4)) = some (.int .i64 pt) ∧ u.cell? ⟨(a.add (i * 4)).block, (a.add (i * 4)).off + 1, none⟩ = some (.int .u16 pid))
  (first | go_keep | (go_split_ands; exact ⟨cell_keeps hb6.out (Nat.le_refl _) c0, cell_keeps hb6.out (Nat.le_refl _) c1, cell_keeps hb6.out (Nat.le_refl _) c2, cell_keeps hb6.out (Nat.le_refl _) c3, cell_keeps hb6.out (Nat.le_refl _) c4⟩))
  (first | (go_at_call 57; refine (hcmp.out _).mono ?_; rintro e w6 ⟨rfl, hb6'⟩; have hb6 := Lib.hid hb6'; clear hb6'))
 go_wp2
 go_ret
 exact ⟨by simp, (below_drew W).trans hb6.out⟩
/-- where a key stands in a list, or would stand -/
def Rising (l : List RowD) : Prop := ∀ (i : Nat) (a b : RowD), l[i]? = some a → l[i + 1]? = some b → cmpK a.key b.key < 0
theorem Rising.lt {l : List RowD} (h : Rising l) : ∀ (d i : Nat) (a b : RowD), l[i]? = some a → l[i + d + 1]? = some b → cmpK a.key b.key < 0
 | 0, i, a, b, ha, hb => h i a b ha hb
 | d + 1, i, a, b, ha, hb => by
   have hl := (List.getElem?_eq_some_iff.1 hb).1
   obtain ⟨m, hm⟩ : ∃ m, l[i + d + 1]? = some m := ⟨_, List.getElem?_eq_getElem (by omega)⟩
   exact cmpK_trans' (h.lt d i a m ha hm) (h (i + d + 1) m b hm hb)
theorem Rising.le {l : List RowD} (h : Rising l) {i j : Nat} {a b : RowD} (hij : i ≤ j) (ha : l[i]? = some a) (hb : l[j]? = some b) : cmpK a.key b.key ≤ 0 := by
 rcases Nat.lt_or_ge i j with hlt | hge
 · obtain ⟨d, rfl⟩ : ∃ d, j = i + d + 1 := ⟨j - i - 1, by omega⟩
   have := h.lt d i a b ha hb
   omega
 · obtain rfl : i = j := by omega
   rw [ha] at hb; cases hb
   rw [cmpK_zero.2 rfl]; omega
theorem okL_rising {bs : List BdD} {l : List RowD} (h : okL bs l = true) : Rising l := fun i a b ha hb => (((okL_iff bs l).1 h).2 (i + 1) b hb).2 i a rfl ha
/-- the rows ahead of j have lesser keys, those from j on have not -/
structure Place (l : List RowD) (k : KeyD) (j : Nat) : Prop where
 le : j ≤ l.length
 lo : ∀ i r, i < j → l[i]? = some r → cmpK r.key k < 0
 hi : ∀ i r, j ≤ i → l[i]? = some r → 0 ≤ cmpK r.key k
theorem Place.of {l : List RowD} {k : KeyD} {j : Nat} (h : Rising l) (hj : j ≤ l.length) (h1 : ∀ m, j = m + 1 → geB l k m = false) (h2 : j < l.length → geB l k j = true) : Place l k j := by
 refine ⟨hj, fun i r hi hr => ?_, fun i r hi hr => ?_⟩
 · obtain ⟨m, rfl⟩ : ∃ m, j = m + 1 := ⟨j - 1, by omega⟩
   have hx := h1 m rfl
   obtain ⟨p, hp⟩ : ∃ p, l[m]? = some p := ⟨_, List.getElem?_eq_getElem (by omega)⟩
   unfold geB at hx
   rw [hp] at hx
   have hlt : cmpK p.key k < 0 := by simpa using hx
   have hle := h.le (show i ≤ m by omega) hr hp
   by_cases he : cmpK r.key p.key = 0
   · rw [cmpK_zero.1 he]; exact hlt
   · exact cmpK_trans' (by omega) hlt
 · have hl := (List.getElem?_eq_some_iff.1 hr).1
   have hx := h2 (by omega)
   obtain ⟨p, hp⟩ : ∃ p, l[j]? = some p := ⟨_, List.getElem?_eq_getElem (by omega)⟩
   unfold geB at hx
   rw [hp] at hx
   have hge : 0 ≤ cmpK p.key k := by simpa using hx
   have hle := h.le hi hp hr
   have h3 : cmpK k p.key ≤ 0 := by rw [cmpK_anti]; omega
   have h4 := cmpK_trans h3 hle
   rw [cmpK_anti] at h4
   omega
/-- is the key at that place? -/
def atB (l : List RowD) (k : KeyD) (j : Nat) : Bool := match l[j]? with
 | some r => eqK r.key k
 | none => false
theorem atB_none {l : List RowD} {k : KeyD} {j : Nat} (h : l.length ≤ j) : atB l k j = false := by
 unfold atB
 rw [List.getElem?_eq_none h]
theorem atB_some {l : List RowD} {k : KeyD} {j : Nat} {r : RowD} (h : l[j]? = some r) : atB l k j = eqK r.key k := by
 unfold atB
 rw [h]
set_option maxRecDepth 100000 in
set_option maxHeartbeats 2000000 in
theorem search_any (q : Option Addr) (n c : Nat) (l : List RowD) (t id : Int) (w : World) (hr : RowsOn w q n c l) (hs : Rising l) (hn : n ≤ 4611686018427387904) :
 Calls Try.prog 94 #[.slice q n c, .agg #[.int .i64 t, .int .u16 id]] w (fun e w' => ∃ j : Nat, e = .returned (.tuple #[.int .i64 j, .bool (atB l ⟨t, id⟩ j)]) ∧ Place l ⟨t, id⟩ j ∧ Below w.heap.size w w') := by
 obtain ⟨W, hW⟩ : ∃ W, (w.alloc (.cells #[.slice q n c] 25)).alloc (.cells #[.int .i64 t, .int .u16 id] 28) = W := ⟨_, rfl⟩
 have hbx := Lib.hid (two_boxes (xs := [.slice q n c]) (ys := [.int .i64 t, .int .u16 id]) hW)
 have hW' := Lib.hid hr
 have hs' := Lib.hid hs
 have hl := Lib.hid hr.len
 have c0 := hbx.out.2.1.cell 0 rfl
 have hsrch := Lib.hid (sortSearch_any n (geB l ⟨t, id⟩) (.pointer (some ⟨w.heap.size, 0, none⟩)) (.pointer (some ⟨w.heap.size + 1, 0, none⟩)) W hn (fun i u hi hu => searchFn_any w.heap.size q n c l t id i u ((hW'.out.below hbx.out.1 (Nat.le_refl _)).below hu (Nat.le_refl _)) (hbx.out.2.1.below hu (Nat.le_refl _)) (hbx.out.2.2.1.below hu (Nat.le_refl _)) hi))
 clear hr hs
 go_enter Try.func94, Try.ntmps94
 go_wp2_with (first | (go_at_call 97; refine hsrch.out.mono ?_; rintro e w1 ⟨j, rfl, hj, hj1, hj2, hb1⟩; have hpl := Lib.hid (Place.of (k := ⟨t, id⟩) hs'.out (by rw [hl.out]; exact hj) hj1 (by rw [hl.out]; exact hj2)); have hb2 := Lib.hid hb1; clear hj1 hj2 hb1))
 have f0 := (hbx.out.2.1.below hb2.out (Nat.le_refl _)).cell 0 rfl
 have f1 := (hbx.out.2.2.1.below hb2.out (Nat.le_refl _)).cell 0 rfl
 have f2 := (hbx.out.2.2.1.below hb2.out (Nat.le_refl _)).cell 1 rfl
 have hbe := Lib.hid (hbx.out.1.trans (hb2.out.mono hbx.out.1.size))
 clear hW
 by_cases hlt : j < n
 · obtain ⟨a, ⟨⟨pt, pid⟩, pv, ps⟩, rfl, hx, hok, hc⟩ := (hW'.out.below hbe.out (Nat.le_refl _)).at hlt
   have c3 : w1.cell? (a.add (j * 4)) = some (.int .i64 pt) := by have h := hc 0 _ rfl; rwa [add0] at h
   have c4 : w1.cell? ⟨(a.add (j * 4)).block, (a.add (j * 4)).off + 1, none⟩ = some (.int .u16 pid) := hc 1 _ rfl
   have i0 : (0 : Int) ≤ j := by omega
   have i1 : (j : Int) < n := by omega
   have i2 : decide ((j : Int) < n) = true := decide_eq_true i1
   have hat := Lib.hid (atB_some (k := ⟨t, id⟩) hx)
   obtain ⟨B, hB⟩ : ∃ B, atB l ⟨t, id⟩ j = B := ⟨_, rfl⟩
   have hB' := Lib.hid hB
   clear hx hok hc hB
   by_cases e1 : pt = t
   · subst e1
     by_cases e2 : pid = id
     · subst e2
       have hBv : B = true := by rw [← hB'.out, hat.out]; simp [eqK]
       go_quiet (fail)
       go_wp2
       go_ret2
       exact ⟨j, (by rw [hB'.out, hBv]; rfl), hpl.out, hbe.out.trans ((below_drewN _ _).mono hbe.out.size)⟩
     · have hBv : B = false := by rw [← hB'.out, hat.out]; simp [eqK, e2]
       have e3 : (pid == id) = false := by simpa using e2
       go_quiet (fail)
       go_wp2
       go_ret2
       exact ⟨j, (by rw [hB'.out, hBv]; rfl), hpl.out, hbe.out.trans ((below_drewN _ _).mono hbe.out.size)⟩
   · have hBv : B = false := by rw [← hB'.out, hat.out]; simp [eqK, e1]
     have e3 : (pt == t) = false := by simpa using e1
     go_quiet (fail)
     go_wp2
     go_ret2
     exact ⟨j, (by rw [hB'.out, hBv]; rfl), hpl.out, hbe.out.trans ((below_drewN _ _).mono hbe.out.size)⟩
 · have i1 : decide ((j : Int) < n) = false := decide_eq_false (by omega)
   have hat := Lib.hid (atB_none (k := ⟨t, id⟩) (show l.length ≤ j by rw [hl.out]; omega))
   go_quiet (fail)
   go_wp2
   go_ret2
   exact ⟨j, (by rw [hat.out]; rfl), hpl.out, hbe.out.trans ((below_drewN _ _).mono hbe.out.size)⟩
end Go.Proofs.Ytkdkncbccofpdaa
namespace Go.Proofs.Ytkdkncbccofpdaa
open Go.RowKit
theorem infoRow : (Try.prog.info? 68).map (fun i => (i.zero, i.size, i.bytes)) = some (some (.agg #[.int .i64 0, .int .u16 0, .int .i64 0, .string ⟨#[]⟩]), 4, 40) := by kernel_rfl
section
variable {P : Program} {w : World}
/-- append onto a row of the call's own, from whatever list of rows -/
theorem run_append_r {t T : TypeId} {bytes : Nat} {z : Value} (ht : P.underlying t = some (.slice T)) (hi : (P.info? T).map (fun i => (i.zero, i.size, i.bytes)) = some (some z, 4, bytes)) (hz : z.cells.size = 4) (ty : TypeId)
 {base : Nat} {q0 : Option Addr} {n0 c0 : Nat} {l : List RowD} {q : Option Addr} {m d : Nat} {ms : List RowD} (hown : OwnR T w base (.slice q0 n0 c0) l) (hr : RowsOn w q m d ms) (hbig : (n0 + m) * bytes ≤ 140737488355328) (hbig2 : n0 + m ≤ 140737488355328) (hbase : base ≤ w.heap.size) :
 ∃ q' c' w', (Builtin.append_ #[t, t] ty #[.slice q0 n0 c0, .slice q m d]).run P w = .ok (.slice q' (n0 + m) c') w' ∧ OwnR T w' base (.slice q' (n0 + m) c') (l ++ ms) ∧ w.grownBy w' (q0.map (·.block)) ∧ (q'.map (·.block) = q0.map (·.block) ∨ q'.map (·.block) = some w.heap.size) := by
 obtain ⟨i0, hi0, hz0, hz1, hz2⟩ := info_parts hi
 have hl := hown.len
 have hm := hr.len
 subst hl
 cases q with
 | none =>
   have h0 : m = 0 := by have := hr.nil rfl; have := hr.le; omega
   subst h0
   obtain rfl := List.eq_nil_of_length_eq_zero hm
   refine ⟨q0, c0, w, ?_, by simpa using hown, ⟨rfl, rfl, rfl, Nat.le_refl _, fun _ _ _ => rfl⟩, .inl rfl⟩
   obtain ⟨hlen, ⟨he, h0⟩ | ⟨g, cap, cur, he, hg, hh, hle, hm2, r⟩⟩ := hown
   · simp only [Value.slice.injEq] at he
     obtain ⟨rfl, h1, rfl⟩ := he
     simp [Builtin.append_, run_underlying ht, sizeOf, typeInfo, hi0, Builtin.lenOf, Builtin.firstCells, h1]
   · simp only [Value.slice.injEq] at he
     obtain ⟨rfl, _, rfl⟩ := he
     simp [Builtin.append_, run_underlying ht, sizeOf, typeInfo, hi0, Builtin.lenOf, Builtin.firstCells, hle, storeCells]
 | some ad =>
   obtain ⟨v', w', hrun, hown', hg, _, hat⟩ := run_append_own_at (P := P) w base t ty T i0 z 4 bytes ht hi0 hz0 hz1 hz2 hz (by decide) _ l.length (cellsR l) hown ad m d (cellsR ms) (by rw [cellsR_len, hm]) (fun j u hj => by
    obtain ⟨i, r, k, rfl, h1, h2⟩ := cellsR_get' ms j u hj
    obtain ⟨a', ha', hc⟩ := hr.get i r h1
    cases ha'
    rw [← Go.Deep.add_add]
    exact hc k u h2) (cellsR_one ms) (by unfold maxLen; omega) hbig hbase
   have hown2 : OwnR T w' base v' (l ++ ms) := by
    unfold OwnR
    rw [List.length_append, hm, cellsR_append]
    exact hown'
   obtain ⟨q', c', rfl⟩ := hown2.shape
   rw [List.length_append, hm] at hrun hown2
   exact ⟨q', c', w', hrun, hown2, by cases q0 <;> exact hg, by cases q0 <;> cases q' <;> exact hat⟩
theorem wpList_append_r {t T : TypeId} {bytes : Nat} {z : Value} (ht : P.underlying t = some (.slice T)) (hi : (P.info? T).map (fun i => (i.zero, i.size, i.bytes)) = some (some z, 4, bytes)) (hz : z.cells.size = 4)
 {ops : Array Oper} {rest : List Oper} {o : Oper} {a : Act} {Q : Exit → Act → World → Prop} (hgd : o.guard = none) (sl x : Operand)
 (ho : o.op = .call { callee := .builtin .append, args := #[sl, x], argTypes := #[t, t] }) {base : Nat} {q0 : Option Addr} {n0 c0 m d : Nat} {l ms : List RowD} {q : Option Addr} (hsl : a.eval sl = .slice q0 n0 c0) (hx : a.eval x = .slice q m d)
 (hown : OwnR T w base (.slice q0 n0 c0) l) (hr : RowsOn w q m d ms) (hbig : (n0 + m) * bytes ≤ 140737488355328) (hbig2 : n0 + m ≤ 140737488355328) (hbase : base ≤ w.heap.size)
 (h : ∀ q' c' w', OwnR T w' base (.slice q' (n0 + m) c') (l ++ ms) → w.grownBy w' (q0.map (·.block)) → (q'.map (·.block) = q0.map (·.block) ∨ q'.map (·.block) = some w.heap.size) → wpList P ops Q rest (a.put o.dst (.slice q' (n0 + m) c')) w') : wpList P ops Q (o :: rest) a w := by
 obtain ⟨q', c', w', hrun, h1, h2, h3⟩ := run_append_r ht hi hz o.type hown hr hbig hbig2 hbase
 exact Lib.wpList_append_run_sl w hgd sl x t ho _ _ hsl hx hrun (h q' c' w' h1 h2 h3)
/-- copy into a row that is known whole -/
theorem run_copy_rk {dT sT ty elem T : TypeId} (hu : P.underlying dT = some (.slice elem)) {bytes : Nat} {z : Value} (hi : (P.info? elem).map (fun i => (i.zero, i.size, i.bytes)) = some (some z, 4, bytes))
 {dp sp : Option Addr} {dLen dCap sLen sCap : Nat} {g off : Nat} {cur cs : List Value} (hg : RowV T w g cur) (hn : cs.length = Nat.min sLen dLen * 4)
 (hpos : 0 < cs.length → dp = some ⟨g, off, none⟩ ∧ ∃ ad, sp = some ad ∧ ∀ j v, cs[j]? = some v → w.cell? (ad.add j) = some v) (hfit : off + cs.length ≤ cur.length) (h1 : ∀ v ∈ cs, v.oneCell' = true) :
 ∃ w', (Builtin.copy_ #[dT, sT] ty #[.slice dp dLen dCap, .slice sp sLen sCap]).run P w = .ok (goInt (Nat.min sLen dLen)) w' ∧ RowV T w' g (splice cur off cs) ∧ w.grownBy w' (some g) := by
 obtain ⟨i0, hi0, hz0, hz1, hz2⟩ := info_parts hi
 by_cases h0 : cs.length = 0
 · have hm : Nat.min sLen dLen = 0 := by omega
   obtain rfl := List.eq_nil_of_length_eq_zero h0
   refine ⟨w, ?_, by simpa [splice] using hg, ⟨rfl, rfl, rfl, Nat.le_refl _, fun _ _ _ => rfl⟩⟩
   cases dp <;> cases sp <;> simp [Builtin.copy_, run_underlying hu, Builtin.lenOf, Builtin.firstCells, sizeOf, typeInfo, hi0, hm, loadCells, loadCellsFrom, storeCells]
 · obtain ⟨rfl, ad, rfl, hsrc⟩ := hpos (by omega)
   have hl := run_loadCells_list (P := P) w ad cs hsrc
   have hst := run_storeCells_at P g off T cs 0 cur.toArray w hg (by simpa using hfit) h1
   refine ⟨w.setRow g (cur.take off ++ cs ++ cur.drop (off + cs.length)).toArray, ?_, ?_, setRow_grown w g _⟩
   · rw [hn] at hl
     simp only [Nat.add_zero] at hst
     simp [Builtin.copy_, run_underlying hu, Builtin.lenOf, Builtin.firstCells, sizeOf, typeInfo, hi0, hz1, hl, hst]
   · unfold RowV splice
     rw [← List.append_assoc]
     exact setRow_heap w g _ _ T _ hg
theorem wpList_copy_rk {dT sT elem T : TypeId} (hu : P.underlying dT = some (.slice elem)) {bytes : Nat} {z : Value} (hi : (P.info? elem).map (fun i => (i.zero, i.size, i.bytes)) = some (some z, 4, bytes))
 {ops : Array Oper} {rest : List Oper} {o : Oper} {a : Act} {Q : Exit → Act → World → Prop} (hgd : o.guard = none) (d s : Operand) (ho : o.op = .call { callee := .builtin .copy, args := #[d, s], argTypes := #[dT, sT] })
 {dp sp : Option Addr} {dLen dCap sLen sCap : Nat} (hd : a.eval d = .slice dp dLen dCap) (hs : a.eval s = .slice sp sLen sCap) {g off : Nat} {cur cs : List Value} (hg : RowV T w g cur) (hn : cs.length = Nat.min sLen dLen * 4)
 (hpos : 0 < cs.length → dp = some ⟨g, off, none⟩ ∧ ∃ ad, sp = some ad ∧ ∀ j v, cs[j]? = some v → w.cell? (ad.add j) = some v) (hfit : off + cs.length ≤ cur.length) (h1 : ∀ v ∈ cs, v.oneCell' = true)
 (h : ∀ w', RowV T w' g (splice cur off cs) → w.grownBy w' (some g) → wpList P ops Q rest (a.put o.dst (goInt (Nat.min sLen dLen))) w') : wpList P ops Q (o :: rest) a w := by
 obtain ⟨w', hrun, h2, h3⟩ := run_copy_rk (sT := sT) (ty := o.type) (dCap := dCap) (sCap := sCap) hu hi hg hn hpos hfit h1
 refine wpList_plain hgd fun K hK => ?_
 unfold Oper.wp
 simp [execOp, ho, resolve, invoke, builtin, hd, hs, hrun, Result.andThen]
 exact hK _ _ (h w' h2 h3)
/-- append of a make, where there is no room -/
theorem wpList_append_z {t tn T : TypeId} {bytes : Nat} {z : Value} (ht : P.underlying t = some (.slice T)) (htn : P.underlying tn = some (.int .i64)) (hi : (P.info? T).map (fun i => (i.zero, i.size, i.bytes)) = some (some z, 4, bytes)) (hz : z.cells.size = 4)
 {ops : Array Oper} {rest : List Oper} {o : Oper} {a : Act} {Q : Exit → Act → World → Prop} (hgd : o.guard = none) (sl x : Operand)
 (ho : o.op = .call { callee := .builtin .append, args := #[sl, x], argTypes := #[t, tn] }) {q0 : Option Addr} {n0 c0 k : Nat} {olds : List Value} (hsl : a.eval sl = .slice q0 n0 c0) (hx : a.eval x = .int .i64 k)
 (hold : olds.length = n0 * 4) (hcell : ∃ ad, q0 = some ad ∧ ∀ j v, olds[j]? = some v → w.cell? (ad.add j) = some v) (hk : 0 < k) (hroom : c0 < n0 + k) (hbig : (n0 + k) * bytes ≤ 140737488355328) (hbig2 : n0 + k ≤ 140737488355328)
 (h : ∀ c' w', n0 + k ≤ c' → c' ≤ maxLen → (∃ cs, RowV T w' w.heap.size (olds ++ cs) ∧ (olds ++ cs).length = c' * 4) → Below w.heap.size w w' → w.heap.size < w'.heap.size → wpList P ops Q rest (a.put o.dst (.slice (some ⟨w.heap.size, 0, none⟩) (n0 + k) c')) w') : wpList P ops Q (o :: rest) a w := by
 obtain ⟨i0, hi0, hz0, hz1, hz2⟩ := info_parts hi
 obtain ⟨ad, rfl, hc⟩ := hcell
 have hf : (Builtin.firstCells i0.size n0 (.slice (some ad) n0 c0)).run P w.drew = .ok olds.toArray w.drew := by
  rw [hz1]
  exact run_firstCells_some w.drew 4 n0 ad n0 c0 olds hold hc
 have hrun := Lib.run_append_grow_zeros w t tn o.type T i0 z .i64 .i64 ht htn hi0 hz0 (some ad) n0 c0 olds hf k hk (by omega) hroom (by omega) (by rw [hz2]; exact Nat.le_trans (Nat.mul_le_mul_right _ (Nat.le_add_left k n0)) (Nat.le_trans hbig (by decide))) (by rw [hz2]; exact growslice_fits hroom hbig)
 have hge := grownCap_ge w (n0 + k) c0 T
 have hcm := grownCap_le_maxLen w (n0 + k) c0 T (by unfold maxLen; omega)
 refine Lib.wpList_append_run w hgd sl x t tn ho _ _ hsl hx _ _ hrun (h _ _ hge hcm ⟨(Builtin.zeroCells z.cells k ++ Builtin.zeroCells z.cells (grownCap w (n0 + k) c0 T - (n0 + k))).toList, ?_, ?_⟩ ?_ (by simp))
 · unfold RowV
   have e : (olds ++ (Builtin.zeroCells z.cells k ++ Builtin.zeroCells z.cells (grownCap w (n0 + k) c0 T - (n0 + k))).toList).toArray = olds.toArray ++ Builtin.zeroCells z.cells k ++ Builtin.zeroCells z.cells (grownCap w (n0 + k) c0 T - (n0 + k)) := by
    apply Array.ext'
    simp
   rw [e]
   exact heap_alloc_new w.drew _
 · simp only [List.length_append, Array.length_toList, Array.size_append, size_zeroCells, hz, hold]
   omega
 · exact (below_drew w).trans ((Below.refl w.drew.heap.size w.drew).alloc (Nat.le_refl _) _)
end
end Go.Proofs.Ytkdkncbccofpdaa
namespace Go.Proofs.Ytkdkncbccofpdaa
open Go.RowKit
theorem grown_belowN {w w' : World} {q : Option Nat} {B : Nat} (h : w.grownBy w' q) (hB : B ≤ w.heap.size) (hq : ∀ k, q = some k → B ≤ k) : Below B w w' :=
 ⟨h.os, h.tape, h.output, h.size, fun k hk => h.block k (by omega) (fun e => by have := hq k e.symm; omega)⟩
set_option maxRecDepth 100000 in
set_option maxHeartbeats 1000000 in
theorem clone_any (q : Option Addr) (n c : Nat) (l : List RowD) (w : World) (hr : RowsOn w q n c l) (hn : n ≤ 1000000) :
 Calls Try.prog 34 #[.slice q n c] w (fun e w' => ∃ q' c', e = .returned (.slice q' n c') ∧ OwnR 68 w' w.heap.size (.slice q' n c') l ∧ Below w.heap.size w w') := by
 cases q with
 | none =>
   have h0 := hr.nil rfl
   have h1 := hr.le
   have h2 := hr.len
   obtain rfl : n = 0 := by omega
   obtain rfl := List.eq_nil_of_length_eq_zero h2
   subst h0
   clear h1 hr
   have heq : ∀ u, (binOp .eql 25 (.slice none 0 0) (.slice none 0 0)).run Try.prog u = .ok (.bool true) u := fun u => Lib.run_eql_slice_nil u _ _ _ _ _ _ _ Try.underlying25
   go_enter Try.func34, Try.ntmps34
   go_wp2
   go_ret
   exact ⟨none, 0, rfl, OwnR.nil _ _ _, Below.refl _ _⟩
 | some ad =>
   have hrr := Lib.hid hr
   have hl := Lib.hid hr.len
   clear hr
   have heq : ∀ u, (binOp .eql 25 (.slice (some ad) n c) (.slice none 0 0)).run Try.prog u = .ok (.bool false) u := fun u => Lib.run_eql_slice_nil u _ _ _ _ _ _ _ Try.underlying25
   have ho : Hid (OwnR 68 (w.alloc (.cells #[] 68)) w.heap.size (.slice (some ⟨w.heap.size, 0, none⟩) 0 0) []) := World.ownsRow_made w #[] 0 (Nat.le_refl _) (Nat.zero_le _) rfl
   go_enter Try.func34, Try.ntmps34
   go_wp2_with (first
    | (at_builtin
       refine wpList_append_r Try.underlying25 infoRow rfl rfl (.tmp 5) (.tmp 6) rfl rfl rfl ho.out (hrr.out.below ((Below.refl _ _).alloc (Nat.le_refl _) _) (Nat.le_refl _)) (by omega) (by omega) (by simp) ?_
       intro q' c' w' h1 h2 h3
       have hh := Lib.hid h1
       have hg := Lib.hid h2
       clear h1 h2 h3))
   go_ret
   refine ⟨q', c', rfl, by have := hh.out; rwa [Nat.zero_add] at this, ((Below.refl w.heap.size w).alloc (Nat.le_refl _) _).trans (grown_belowN hg.out (by simp) (fun k hk => by cases hk; exact Nat.le_refl _))⟩
end Go.Proofs.Ytkdkncbccofpdaa
namespace Go.Proofs.Ytkdkncbccofpdaa
open Go.RowKit
/-- a list of the call's own, opened: the block and all of its cells -/
theorem OwnR.opened {T : TypeId} {w : World} {B : Nat} {a : Addr} {n c : Nat} {l : List RowD} (h : OwnR T w B (.slice (some a) n c) l) :
 ∃ g cur, a = ⟨g, 0, none⟩ ∧ B ≤ g ∧ RowV T w g cur ∧ n ≤ c ∧ c ≤ maxLen ∧ cur.length = c * 4 ∧ cur.take (n * 4) = cellsR l := by
 have hl := h.len
 obtain ⟨hlen, ⟨he, h0⟩ | ⟨g, cap, cur, he, hg, hh, hle, hm, hs, ht⟩⟩ := h
 · simp only [Value.slice.injEq] at he; exact absurd he.1 (by simp)
 · simp only [Value.slice.injEq] at he
   obtain ⟨e1, e2, rfl⟩ := he
   cases e1
   exact ⟨g, cur.toList, rfl, hg, by unfold RowV; simpa using hh, by omega, hm, by simpa using hs, by rw [hl]; exact ht⟩
theorem OwnR.mk {T : TypeId} {w : World} {B g n c : Nat} {cur : List Value} {l : List RowD} (hB : B ≤ g) (hr : RowV T w g cur) (hn : n ≤ c) (hc : c ≤ maxLen) (hs : cur.length = c * 4) (ht : cur.take (n * 4) = cellsR l) (hl : l.length = n) : OwnR T w B (.slice (some ⟨g, 0, none⟩) n c) l := by
 subst hl
 exact ⟨cellsR_len l, .inr ⟨g, c, cur.toArray, rfl, hB, hr, hn, hc, by simpa using hs, by simpa using ht⟩⟩
theorem splice_take {cs vs : List Value} {o : Nat} (h : o + vs.length ≤ cs.length) : (splice cs o vs).take (o + vs.length) = cs.take o ++ vs := by
 unfold splice
 rw [← List.append_assoc, List.take_append_of_le_length (by simp; omega)]
 exact List.take_of_length_le (by simp; omega)
theorem splice_take_lt {cs vs : List Value} {o k : Nat} (hk : k ≤ o) (ho : o ≤ cs.length) : (splice cs o vs).take k = cs.take k := by
 unfold splice
 rw [List.take_append_of_le_length (by simp; omega), List.take_take, Nat.min_eq_left hk]
theorem cellsR_take (l : List RowD) (i : Nat) : cellsR (l.take i) = (cellsR l).take (i * 4) := by
 by_cases hi : i ≤ l.length
 · have h := cellsR_append (l.take i) (l.drop i)
   have hlen : (cellsR (l.take i)).length = i * 4 := by rw [cellsR_len, List.length_take, Nat.min_eq_left hi]
   rw [List.take_append_drop] at h
   rw [h, List.take_append_of_le_length (Nat.le_of_eq hlen.symm), List.take_of_length_le (Nat.le_of_eq hlen)]
 · have hlen : (cellsR l).length ≤ i * 4 := by rw [cellsR_len]; omega
   rw [List.take_of_length_le (show l.length ≤ i by omega), List.take_of_length_le hlen]
theorem cellsR_drop (l : List RowD) (i : Nat) (hi : i ≤ l.length) : cellsR (l.drop i) = (cellsR l).drop (i * 4) := by
 have h := cellsR_append (l.take i) (l.drop i)
 have hlen : (cellsR (l.take i)).length = i * 4 := by rw [cellsR_len, List.length_take, Nat.min_eq_left hi]
 rw [List.take_append_drop] at h
 rw [h, List.drop_append_of_le_length (Nat.le_of_eq hlen.symm), List.drop_of_length_le (Nat.le_of_eq hlen), List.nil_append]
/-- cells of a block beyond place i, as the source of a copy -/
theorem RowV.src {T : TypeId} {w : World} {g : Nat} {cur : List Value} (h : RowV T w g cur) {o : Nat} {cs : List Value} (hc : ∀ j v, cs[j]? = some v → cur[o + j]? = some v) : ∀ j v, cs[j]? = some v → w.cell? ((⟨g, o, none⟩ : Addr).add j) = some v := by
 intro j v hj
 have hadd : (⟨g, o, none⟩ : Addr).add j = ⟨g, o + j, none⟩ := by unfold Addr.add; split <;> simp_all
 rw [hadd, h.cell]
 exact hc j v hj
/-- a place more ahead of i: first what stands from i on, then the row -/
theorem ins_shift {cur : List Value} {l : List RowD} {r : RowD} {n i c : Nat} (hl : l.length = n) (hi : i ≤ n) (hs : cur.length = c * 4) (hc : n + 1 ≤ c) (ht : cur.take (n * 4) = cellsR l) :
 (splice (splice cur ((i + 1) * 4) (cellsR (l.drop i))) (i * 4) r.cells).take ((n + 1) * 4) = cellsR (l.take i ++ r :: l.drop i) := by
 have e1 : cur.take (i * 4) = cellsR (l.take i) := by
  rw [cellsR_take, ← ht, List.take_take, Nat.min_eq_left (by omega)]
 have hd : (cellsR (l.drop i)).length = (n - i) * 4 := by rw [cellsR_len, List.length_drop, hl]
 have hr : r.cells.length = 4 := rfl
 obtain ⟨D, hD⟩ : ∃ D, cellsR (l.drop i) = D := ⟨_, rfl⟩
 rw [hD] at hd
 have e2 : cellsR (l.take i ++ r :: l.drop i) = cellsR (l.take i) ++ (r.cells ++ D) := by rw [cellsR_append, ← hD]; rfl
 rw [e2, ← e1, hD]
 unfold splice
 apply List.ext_getElem?
 intro k
 simp only [List.getElem?_take, List.getElem?_append, List.getElem?_drop, List.length_take, List.length_append, List.length_drop, hd, hr, hs]
 repeat' split
 all_goals first
  | rfl
  | omega
  | (congr 1; omega)
  | (symm; apply List.getElem?_eq_none; omega)
set_option maxRecDepth 100000 in
set_option maxHeartbeats 2000000 in
theorem insert_shift (B g c n i vb : Nat) (cur : List Value) (l : List RowD) (r : RowD) (w : World) (hi : i < n) (hroom : n + 1 ≤ c) (hn : n ≤ 1000000) (hc : c ≤ maxLen) (hB : B ≤ g) (hg : RowV 68 w g cur) (hs : cur.length = c * 4) (ht : cur.take (n * 4) = cellsR l) (hl : l.length = n)
 (hv : RowV 68 w vb r.cells) (hne : vb ≠ g) :
 Calls Try.prog 100 #[.slice (some ⟨g, 0, none⟩) n c, .int .i64 i, .slice (some ⟨vb, 0, none⟩) 1 1] w (fun e w' => e = .returned (.slice (some ⟨g, 0, none⟩) (n + 1) c) ∧ OwnR 68 w' B (.slice (some ⟨g, 0, none⟩) (n + 1) c) (l.take i ++ r :: l.drop i) ∧ w.grownBy w' (some g)) := by
 unfold maxLen at hc
 have hov : ∀ lb cb, (callFunc 101 #[.slice (some ⟨vb, 0, none⟩) 1 1, .slice (some ⟨g, (i + 1) * 4, none⟩) lb cb]).run Try.prog w = .ok (.value (.bool false)) w := fun lb cb => by
  rw [run_callFunc_extern Try.func101 (by kernel_rfl) (by kernel_rfl) (by kernel_rfl) (e := Extern.SlicesOverlaps.overlaps #[25, 25] #[4]) (by kernel_rfl),
   Lib.run_overlaps_apart w 25 4 68 Try.underlying25 4 Try.sizeOf68 ⟨vb, 0, none⟩ ⟨g, (i + 1) * 4, none⟩ 1 1 lb cb hne 68 68 4 (c * 4) (by unfold RowV at hv; simp [World.shape?, hv, RowD.cells]) (by unfold RowV at hg; simp [World.shape?, hg, hs]) (by omega) (hv.free 0) (hv.free 4)]
  rfl
 have hin : i ≤ n := by omega
 have hz2 : ¬ ((i : Int) = (n : Int)) := by omega
 have hb0 : ¬ ((c : Int) < (n : Int) + 1) := by omega
 have hb1 : ¬ (c = i) := by omega
 have hb2 : ¬ (c = i + 1) := by omega
 go_enter Try.func100, Try.ntmps100
 go_wp2_with (simp only [hov])
 have k0 : IntKind.i64.wrap ((i : Int) + 1) = (i : Int) + 1 := IntWalk.i64_in _ (by omega)
 have k1 : (0 : Int) ≤ (i : Int) + 1 := by omega
 have k2 : ((i : Int) + 1).toNat = i + 1 := by omega
 have k3 : (i : Int) + 1 ≤ (n : Int) + 1 := by omega
 have k4 : (i : Int) ≤ (n : Int) + 1 := by omega
 have k5 : i ≤ n + 1 := by omega
 go_still_tail 8, (by kernel_rfl)
 change wpList _ _ _ _ _ (World.drew w)
 clear k0 k1 k2 k3 k4 k5
 have hD : (cellsR (l.drop i)).length = (n - i) * 4 := by rw [cellsR_len, List.length_drop, hl]
 have hcp : ∀ j v, (cellsR (l.drop i))[j]? = some v → cur[i * 4 + j]? = some v := fun j v hj => by
  rw [cellsR_drop l i (by omega), List.getElem?_drop, ← ht, List.getElem?_take] at hj
  split at hj
  · exact hj
  · cases hj
 have hfin := Lib.hid (ins_shift (r := r) hl hin hs hroom ht)
 obtain ⟨D, hDD⟩ : ∃ D, cellsR (l.drop i) = D := ⟨_, rfl⟩
 have h1D : ∀ v ∈ D, v.oneCell' = true := by rw [← hDD]; exact cellsR_one _
 rw [hDD] at hD hcp hfin
 have hDD' := Lib.hid hDD
 have hD' := Lib.hid hD
 have hcp' := Lib.hid hcp
 have h1D' := Lib.hid h1D
 have hht := Lib.hid ht
 have hss := Lib.hid hs
 have hll := Lib.hid hl
 have hgg := Lib.hid hg
 have hvv := Lib.hid hv
 clear hDD hD hcp h1D ht hs hl hg hv hov
 have n1 : Hid (D.length = Nat.min (n + 1 - i) (n - i) * 4) := by
  show D.length = _
  rw [hD'.out, show Nat.min (n + 1 - i) (n - i) = n - i by simp only [Nat.min_def]; split <;> omega]
 have hg1 : Hid (RowV 68 w.drew g cur) := hgg.out.block (w' := w.drew) rfl
 have p1 : Hid (0 < D.length → (some ⟨g, (i + 1) * 4, none⟩ : Option Addr) = some ⟨g, (i + 1) * 4, none⟩ ∧ ∃ ad, (some ⟨g, i * 4, none⟩ : Option Addr) = some ad ∧ ∀ j v, D[j]? = some v → w.drew.cell? (ad.add j) = some v) := fun _ => ⟨rfl, _, rfl, hg1.out.src hcp'.out⟩
 have f1 : Hid ((i + 1) * 4 + D.length ≤ cur.length) := by show _ ≤ _; rw [hD'.out, hss.out]; omega
 have q1 := Lib.hid (length_splice cur ((i + 1) * 4) D f1.out)
 have hr4 : Hid (r.cells.length = Nat.min 1 (n + 1 - i) * 4) := by
  show r.cells.length = _
  rw [show Nat.min 1 (n + 1 - i) = 1 by simp only [Nat.min_def]; split <;> omega]
  rfl
 have f2 : Hid (i * 4 + r.cells.length ≤ (splice cur ((i + 1) * 4) D).length) := by show _ ≤ _; rw [q1.out, hss.out]; show i * 4 + 4 ≤ _; omega
 go_wp2_with (first
  | ((with_reducible refine wpList_copy_rk Try.underlying25 infoRow rfl (.tmp 73) (.tmp 76) rfl rfl rfl hg1.out n1.out p1.out f1.out h1D'.out ?_)
     intro w2 hg2 hgr2
     have hg3 := Lib.hid hg2
     have hgr3 := Lib.hid hgr2
     have hv3 := Lib.hid ((hvv.out.block (w' := w.drew) rfl).kept hgr2 hne)
     have p2 : Hid (0 < r.cells.length → (some ⟨g, i * 4, none⟩ : Option Addr) = some ⟨g, i * 4, none⟩ ∧ ∃ ad, (some ⟨vb, 0, none⟩ : Option Addr) = some ad ∧ ∀ j v, r.cells[j]? = some v → w2.cell? (ad.add j) = some v) := fun _ => ⟨rfl, _, rfl, hv3.out.src (fun j v hj => by rw [Nat.zero_add]; exact hj)⟩
     clear hg2 hgr2)
  | ((with_reducible refine wpList_copy_rk Try.underlying25 infoRow rfl (.tmp 80) (.tmp 81) rfl rfl rfl hg3.out hr4.out p2.out f2.out r.one ?_)
     intro w4 hg4' hgr4'
     have hg4 := Lib.hid hg4'
     have hgr4 := Lib.hid hgr4'
     clear hg4' hgr4'))
 go_ret
 have hlen := length_splice (splice cur ((i + 1) * 4) D) (i * 4) r.cells f2.out
 refine ⟨rfl, OwnR.mk hB hg4.out hroom (by unfold maxLen; exact hc) (by rw [hlen, q1.out, hss.out]) hfin.out (by simp [hll.out]; omega), ?_⟩
 exact grown_trans (below_grown (below_drew w) _) (grown_trans hgr3.out hgr4.out)
end Go.Proofs.Ytkdkncbccofpdaa
