/- RingNils: nothing tells nothing: each method of a ring that is not there answers so, and both functions over no disk; how many sectors an entry has is what the document says, for whatever sizes below 2^20. -/
import Derived.Test.YtjhnagipagkhiaaGreatRNlm
import Derived.Deep.Grids
import Derived.Deep.Fields
import Derived.ChangeSame
import Derived.OpenShut
namespace Go.Proofs.YtjhnagipagkhiaaGreat
open Go.ChangeShapes Go.WideShapes Go.ChangeAt Go.RowKit Go.Deep Go.Joins

def secI (z : Int) : Int := if z < 0 then 0 else (secs z.toNat : Nat)
set_option maxRecDepth 100000 in
theorem sectors_i (z : Int) (w : World) (hz : z < 1048576) : Calls Tryz.prog 15 #[.int .i64 z] w (fun e w' => e = .returned (.int .i64 (secI z)) ∧ w' = w) := by
  by_cases h : z < 0
  · have e : secI z = 0 := if_pos h
    rw [e]
    clear e
    go_enter Tryz.func15, Tryz.ntmps15
    go_wp2
    go_ret
    exact ⟨rfl, rfl⟩
  · obtain ⟨m, rfl⟩ : ∃ m : Nat, z = m := ⟨z.toNat, by omega⟩
    have e : secI m = (secs m : Nat) := by unfold secI; rw [if_neg h]; rfl
    rw [e]
    exact sectors_any m w (by omega)
set_option maxRecDepth 100000 in
theorem refsec_i (z : Int) (w : World) (hz : z < 1048576) : Calls Tryz.prog 16 #[.int .i64 z] w (fun e w' => e = .returned (.int .i64 (secI z)) ∧ w' = w) := by
  by_cases h : z < 0
  · have e : secI z = 0 := if_pos h
    rw [e]
    clear e
    go_enter Tryz.func16, Tryz.ntmps16
    go_wp2
    go_ret
    exact ⟨rfl, rfl⟩
  · obtain ⟨m, rfl⟩ : ∃ m : Nat, z = m := ⟨z.toNat, by omega⟩
    have e : secI m = (secs m : Nat) := by unfold secI; rw [if_neg h]; rfl
    rw [e]
    clear e
    have h0 : (0 : Int) ≤ m := by omega
    have hw : IntKind.i64.wrap ((m : Int) + 51) = ((m + 51 : Nat) : Int) := by rw [IntWalk.i64_in _ (by omega)]; omega
    have e2 : (((m + 51 : Nat) : Int).tdiv 52) = (((m + 51) / 52 : Nat) : Int) := by rw [Int.tdiv_eq_ediv_of_nonneg (by omega)]; omega
    have e3 : max (1 : Int) (((m + 51) / 52 : Nat) : Int) = (secs m : Nat) := by unfold secs; omega
    go_enter Tryz.func16, Tryz.ntmps16
    go_wp2
    go_ret
    refine ⟨congrArg (fun z : Int => Ending.returned (.int .i64 z)) ?_, rfl⟩
    unfold secs
    omega

section
variable {H : Type} {enc : TypeId × Value → H} {W : World}
theorem cells8 : Tryz.prog.cellsOf 5 = 1 := by kernel_rfl
theorem cellsB : Tryz.prog.cellsOf 4 = 1 := by kernel_rfl
theorem cellsI1 : Tryz.prog.cellsOf 3 = 1 := by kernel_rfl
theorem cellsSl8 : Tryz.prog.cellsOf 30 = 1 := by kernel_rfl
theorem cellsSlB : Tryz.prog.cellsOf 40 = 1 := by kernel_rfl
theorem cellsEv : Tryz.prog.cellsOf 42 = 5 := by kernel_rfl
theorem SlIn.none_ (w : World) : SlIn w none 0 0 [] := ⟨rfl, Nat.le_refl _, (fun v hv => by cases hv), fun _ => ⟨rfl, rfl⟩, fun a ha => by cases ha⟩
theorem sl_ints {t e : TypeId} {kk : IntKind} {fuel : Nat} {v : Value} {x : DataW H × List MemPlace} (ht : Tryz.prog.underlying t = some (.slice e)) (he : Tryz.prog.underlying e = some (.int kk)) (hc : Tryz.prog.cellsOf e = 1) (hf : DataW.trod enc Tryz.prog W 0 (fun _ => true) true fuel t [v] = some x) :
    ∃ q n c zs, v = .slice q n c ∧ SlIn W q n c ((zs : List Int).map (Value.int kk)) ∧ n ≤ maxLen := by
  rcases open_ints ht he hc hf with ⟨hcs, hx⟩ | ⟨a, len', cap', zs, hcs, _, hl, hm, hz, hx, hcell, hwz⟩
  · simp at hcs
    exact ⟨none, 0, 0, [], hcs, SlIn.none_ W, Nat.zero_le _⟩
  · simp at hcs
    simp only [if_true] at hz
    refine ⟨some a, len', cap', zs.take len', hcs, ⟨by simp; omega, hl, fun v hv => ?_, (fun e => by cases e), fun a' ha j u hu => ?_⟩, ?_⟩
    · obtain ⟨z, _, rfl⟩ := List.mem_map.1 hv
      rfl
    · cases ha
      rw [List.getElem?_map] at hu
      obtain ⟨z, hz2, rfl⟩ := Option.map_eq_some_iff.1 hu
      have hj : j < zs.length := by have := (List.getElem?_eq_some_iff.1 hz2).1; rw [List.length_take] at this; omega
      rw [List.getElem?_take] at hz2
      split at hz2
      · rw [hcell j hj]
        simp [List.getD, hz2]
      · cases hz2
    · exact Nat.le_trans hl hm
theorem sl_bools {fuel : Nat} {v : Value} {x : DataW H × List MemPlace} (hf : DataW.trod enc Tryz.prog W 0 (fun _ => true) true fuel 40 [v] = some x) : ∃ q n c ys, v = .slice q n c ∧ SlIn W q n c ys := by
  rcases open_bools Tryz.underlying40 Tryz.underlying4 cellsB hf with ⟨hc, _⟩ | ⟨a, len, cap, B, hc, _, hl, hm, _, hx⟩
  · simp at hc
    exact ⟨none, 0, 0, [], hc, SlIn.none_ W⟩
  · simp at hc
    refine ⟨some a, len, cap, (List.range len).map fun i => .bool (B i), hc, by simp, hl, fun v hv => ?_, (fun e => by cases e), fun a' ha j y hy => ?_⟩
    · obtain ⟨z, _, rfl⟩ := List.mem_map.1 hv
      rfl
    · cases ha
      rw [List.getElem?_map] at hy
      obtain ⟨k, hk, rfl⟩ := Option.map_eq_some_iff.1 hy
      have hj := (List.getElem?_eq_some_iff.1 hk).1
      rw [List.length_range] at hj
      rw [List.getElem?_range hj] at hk
      cases hk
      exact hx j (by omega)
theorem get_some {α : Type} {l : List α} {i : Nat} (h : i < l.length) : ∃ x, l[i]? = some x := ⟨_, List.getElem?_eq_getElem h⟩
set_option maxRecDepth 100000 in
theorem open_event {r : Reach} {b0 : Nat} {v : Value} {d : DataW H} {p : List MemPlace} (hv : Value.okWide Tryz.prog W r b0 42 v) (h : DataW.Trod enc Tryz.prog W 0 (fun _ => true) true 42 v d p) :
    ∃ k n q1 n1 c1 ys1 q2 n2 c2 ys2 q3 n3 c3 ys3, v = .agg #[.int .i64 k, .int .i64 n, .slice q1 n1 c1, .slice q2 n2 c2, .slice q3 n3 c3] ∧ SlIn W q1 n1 c1 ys1 ∧ SlIn W q2 n2 c2 ys2 ∧ SlIn W q3 n3 c3 ys3 := by
  obtain ⟨cs, rfl, hsz⟩ := okWide_struct Tryz.underlying42 hv
  obtain ⟨fuel, hf⟩ := h
  obtain ⟨xs, n, _, _, hlen, hxl, hg⟩ := DataW.trod_struct Tryz.underlying42 hf
  rw [cellsEv] at hsz
  have hx5 : xs.length = 5 := hxl
  obtain ⟨l⟩ := cs
  match l, hsz with
  | [c0, c1, c2, c3, c4], _ =>
    have g0 : DataW.trod enc Tryz.prog W 0 (fun _ => true) true n 3 (([c0, c1, c2, c3, c4].drop 0).take (Tryz.prog.cellsOf 3)) = xs[0]? := hg 0 _ rfl
    have g1 : DataW.trod enc Tryz.prog W 0 (fun _ => true) true n 3 (([c0, c1, c2, c3, c4].drop 1).take (Tryz.prog.cellsOf 3)) = xs[1]? := hg 1 _ rfl
    have g2 : DataW.trod enc Tryz.prog W 0 (fun _ => true) true n 30 (([c0, c1, c2, c3, c4].drop 2).take (Tryz.prog.cellsOf 30)) = xs[2]? := hg 2 _ rfl
    have g3 : DataW.trod enc Tryz.prog W 0 (fun _ => true) true n 30 (([c0, c1, c2, c3, c4].drop 3).take (Tryz.prog.cellsOf 30)) = xs[3]? := hg 3 _ rfl
    have g4 : DataW.trod enc Tryz.prog W 0 (fun _ => true) true n 40 (([c0, c1, c2, c3, c4].drop 4).take (Tryz.prog.cellsOf 40)) = xs[4]? := hg 4 _ rfl
    obtain ⟨y0, e0⟩ := get_some (l := xs) (i := 0) (by omega)
    obtain ⟨y1, e1⟩ := get_some (l := xs) (i := 1) (by omega)
    obtain ⟨y2, e2⟩ := get_some (l := xs) (i := 2) (by omega)
    obtain ⟨y3, e3⟩ := get_some (l := xs) (i := 3) (by omega)
    obtain ⟨y4, e4⟩ := get_some (l := xs) (i := 4) (by omega)
    rw [e0, cellsI1] at g0
    rw [e1, cellsI1] at g1
    rw [e2, cellsSl8] at g2
    rw [e3, cellsSl8] at g3
    rw [e4, cellsSlB] at g4
    obtain ⟨a, ha, _, _⟩ := DataW.trod_int Tryz.underlying3 g0
    obtain ⟨b, hb, _, _⟩ := DataW.trod_int Tryz.underlying3 g1
    obtain ⟨q1, n1, k1, ys1, h1, o1, _⟩ := sl_ints Tryz.underlying30 Tryz.underlying5 cells8 (v := c2) g2
    obtain ⟨q2, n2, k2, ys2, h2, o2, _⟩ := sl_ints Tryz.underlying30 Tryz.underlying5 cells8 (v := c3) g3
    obtain ⟨q3, n3, k3, ys3, h3, o3⟩ := sl_bools (v := c4) g4
    simp at ha hb
    subst ha hb h1 h2 h3
    exact ⟨a, b, q1, n1, k1, _, q2, n2, k2, _, q3, n3, k3, _, rfl, o1, o2, o3⟩
end

set_option maxRecDepth 100000 in
set_option maxHeartbeats 4000000 in
theorem nils_law (k n : Int) (q1 : Option Addr) (n1 c1 : Nat) (ys1 : List Value) (q2 : Option Addr) (n2 c2 : Nat) (ys2 : List Value) (q3 : Option Addr) (n3 c3 : Nat) (ys3 : List Value) (sq : Option Addr) (sn sc : Nat) (zs : List Int) (w : World)
    (h1 : SlIn w q1 n1 c1 ys1) (h2 : SlIn w q2 n2 c2 ys2) (h3 : SlIn w q3 n3 c3 ys3) (hs : SlIn w sq sn sc (zs.map (Value.int .i64))) (hsn : sn ≤ maxLen) :
    Calls Tryz.prog 4 #[.agg #[.int .i64 k, .int .i64 n, .slice q1 n1 c1, .slice q2 n2 c2, .slice q3 n3 c3], .slice sq sn sc] w (fun e w' => e = .returned (.bool true) ∧ Below w.heap.size w w') := by
  unfold maxLen at hsn
  obtain ⟨W, hW⟩ : ∃ W, w.alloc (.cells #[.int .i64 k, .int .i64 n, .slice q1 n1 c1, .slice q2 n2 c2, .slice q3 n3 c3] 42) = W := ⟨_, rfl⟩
  have hd : Hid (Below w.heap.size w W) := by rw [← hW]; exact (Below.refl _ _).alloc (Nat.le_refl _) _
  have bx : Hid (RowV 42 W w.heap.size [.int .i64 k, .int .i64 n, .slice q1 n1 c1, .slice q2 n2 c2, .slice q3 n3 c3]) := by rw [← hW]; exact RowV.made w _
  have g1 := Lib.hid (h1.below hd.out)
  have g2 := Lib.hid (h2.below hd.out)
  have g3 := Lib.hid (h3.below hd.out)
  have gs := Lib.hid (hs.below hd.out)
  have hwk := Lib.hid (wakes_any W)
  clear h1 h2 h3 hs
  go_enter Tryz.func4, Tryz.ntmps4
  go_wp2_with fail
  clear hW
  refine hwk.out.mono ?_
  rintro e u1 ⟨rfl, hu1⟩
  have b1 := Lib.hid (bx.out.below hu1)
  have d1 := Lib.hid hu1
  have f1 := Lib.hid (format_nil n u1)
  have a1 := b1.out.cell 1
  simp only [List.getElem?_cons_zero, List.getElem?_cons_succ] at a1
  clear hu1 hwk
  go_wp2_with fail
  refine f1.out.mono ?_
  rintro e u2 ⟨rfl, hu2⟩
  have b2 := Lib.hid (b1.out.below hu2)
  have d2 := Lib.hid (d1.out.trans (hu2.mono d1.out.size))
  have f2 := Lib.hid (open_nil u2)
  clear hu2 a1
  go_wp2_with fail
  refine f2.out.mono ?_
  rintro e u3 ⟨rfl, hu3⟩
  have b3 := Lib.hid (b2.out.below hu3)
  have d3 := Lib.hid (d2.out.trans (hu3.mono d2.out.size))
  clear hu3
  go_wp2
  go_loopw [38] (fun v38 wr => ∃ K : Nat, K ≤ sn ∧ v38 = .int .i64 K ∧ Hid (wr = u3)) (fun v38 _ => sn - (RowKit.intOf v38).toNat)
  case atStart => exact ⟨0, Nat.zero_le _, rfl, rfl⟩
  case round =>
    obtain ⟨K, hK, rfl, hwr⟩ := hrel
    obtain rfl := hwr.out
    by_cases hlt : K < sn
    · have hl := gs.out.len
      obtain ⟨z, hz⟩ : ∃ z, zs[K]? = some z := ⟨_, List.getElem?_eq_getElem (by simpa using (by omega : K < (zs.map (Value.int .i64)).length))⟩
      have hsq : ∃ A, sq = some A := by
        cases sq with
        | none => have := (gs.out.nil rfl).1; omega
        | some A => exact ⟨A, rfl⟩
      obtain ⟨A, rfl⟩ := hsq
      have hc : wr.cell? (A.add K) = some (.int .i64 z) := (gs.out.below d3.out).cell A rfl K _ (by rw [List.getElem?_map, hz]; rfl)
      have i0 : (0 : Int) ≤ K := by omega
      have i1 : (K : Int) < sn := by omega
      have hll := Lib.hid hl
      clear hz hl
      by_cases h20 : K < 20
      · have h20' : (K : Int) < 20 := by omega
        by_cases hz1 : z < 1048576
        · have s1 := Lib.hid (fun u => sectors_i z u hz1)
          have s2 := Lib.hid (fun u => refsec_i z u hz1)
          go_wp2_with (first
            | (go_at_call 15; refine (s1.out _).mono ?_; rintro e u4 ⟨rfl, hw⟩; obtain rfl := hw.symm)
            | (go_at_call 16; refine (s2.out _).mono ?_; rintro e u4 ⟨rfl, hw⟩; obtain rfl := hw.symm))
          go_roundw
          case rel => exact ⟨K + 1, by omega, by go_num, trivial⟩
          case measure => simp [RowKit.intOf]; omega
        · have hz2 : (1048576 : Int) ≤ z := by omega
          go_wp2
          go_roundw
          case rel => exact ⟨K + 1, by omega, by go_num, trivial⟩
          case measure => simp [RowKit.intOf]; omega
      · have h20' : ¬ (K : Int) < 20 := by omega
        go_wp2
        go_roundw
        case rel => exact ⟨K + 1, by omega, by go_num, trivial⟩
        case measure => simp [RowKit.intOf]; omega
    · obtain rfl : sn = K := by omega
      have hs5 := sizeEv (.int .i64 k) (.int .i64 n) (.slice q1 n1 c1) (.slice q2 n2 c2) (.slice q3 n3 c3)
      have al : Hid (∀ j' x, ([.int .i64 k, .int .i64 n, .slice q1 n1 c1, .slice q2 n2 c2, .slice q3 n3 c3] : List Value)[j']? = some x → wr.cell? ((⟨w.heap.size, 0, none⟩ : Addr).add j') = some x) := b3.out.part (pre := []) (rest := []) (by simp) rfl
      have hfew := Lib.hid (few_any k n q1 n1 c1 ys1 q2 n2 c2 ys2 q3 n3 c3 ys3 wr (g1.out.below d3.out) (g2.out.below d3.out) (g3.out.below d3.out))
      go_wp2_with (first
        | (with_reducible refine wpList_load_at rfl 42 (.tmp 2) rfl Tryz.underlying42 rfl hs5 rfl al.out ?_))
      refine hfew.out.mono ?_
      rintro e u5 ⟨p1, m1, e1, p2, m2, e2, p3, m3, e3, rfl, hu5⟩
      have b5 := Lib.hid (b3.out.below hu5)
      have d5 := Lib.hid (d3.out.trans (hu5.mono d3.out.size))
      have hs6 := sizeEv (.int .i64 k) (.int .i64 n) (.slice p1 m1 e1) (.slice p2 m2 e2) (.slice p3 m3 e3)
      clear hu5 hfew
      go_wp2_with (first
        | ((with_reducible refine wpList_store_at rfl 42 (.tmp 2) (.tmp 58) rfl (o := 0) (vs := [.int .i64 k, .int .i64 n, .slice p1 m1 e1, .slice p2 m2 e2, .slice p3 m3 e3]) rfl rfl b5.out hs6 (Nat.le_refl _) (one_ev _ _ _ _ _ _ _ _ _ _ _) ?_)
           intro w9 h9 hg9
           have q9 : Hid (RowV 42 w9 w.heap.size [.int .i64 k, .int .i64 n, .slice p1 m1 e1, .slice p2 m2 e2, .slice p3 m3 e3]) := h9
           have d9 := Lib.hid (grown_lowE (hd.out.trans (d5.out.mono hd.out.size)) hg9 (fun a ha => by cases ha; exact Nat.le_refl _))
           have r1 := q9.out.cell 1
           have r2 := q9.out.cell 2
           have r3 := q9.out.cell 3
           simp only [List.getElem?_cons_zero, List.getElem?_cons_succ] at r1 r2 r3
           clear h9 hg9))
      have x1 := Lib.hid (fun u => append_nil (.slice p1 m1 e1) u)
      refine (x1.out _).mono ?_
      rintro e u6 ⟨rfl, hu6⟩
      have q6 := Lib.hid (q9.out.below hu6)
      have d6 := Lib.hid (d9.out.trans (hu6.mono d9.out.size))
      have t1 := q6.out.cell 1
      have t3 := q6.out.cell 3
      simp only [List.getElem?_cons_zero, List.getElem?_cons_succ] at t1 t3
      clear hu6 r1 r2 r3
      go_wp2_with fail
      refine (cut_nil n (.slice p2 m2 e2) _).mono ?_
      rintro e u7 ⟨rfl, hu7⟩
      have d7 := Lib.hid (d6.out.trans (hu7.mono d6.out.size))
      clear hu7 t1 t3
      go_wp2_with fail
      refine (first_nil _).mono ?_
      rintro e u8 ⟨rfl, hu8⟩
      have d8 := Lib.hid (d7.out.trans (hu8.mono d7.out.size))
      clear hu8
      go_wp2_with fail
      refine (all_nil _).mono ?_
      rintro e u9 ⟨rfl, hu9⟩
      have d10 := Lib.hid (d8.out.trans (hu9.mono d8.out.size))
      clear hu9
      go_wp2_with fail
      refine (note_nil _).mono ?_
      rintro e u10 ⟨rfl, hu10⟩
      have d11 := Lib.hid (d10.out.trans (hu10.mono d10.out.size))
      clear hu10
      go_wp2_with fail
      refine (left_nil _).mono ?_
      rintro e u11 ⟨rfl, hu11⟩
      have d12 := Lib.hid (d11.out.trans (hu11.mono d11.out.size))
      clear hu11
      go_wp2_with fail
      refine (broken_nil _).mono ?_
      rintro e u12 ⟨rfl, hu12⟩
      have d13 := Lib.hid (d12.out.trans (hu12.mono d12.out.size))
      clear hu12
      go_wp2
      go_ret
      exact ⟨rfl, d13.out⟩

set_option maxRecDepth 1000000 in
theorem nils_lifted (os : Os) (started : os.Started) (H : Type) (enc : TypeId × Value → H) :
    ReturnsInHanded {} Tryz.checked os 4 .any (Rows.ringNilsSpec.pre6 enc Tryz.prog Tryz.f4 Rows.ringNilsRow.domain false) (Rows.ringNilsSpec.post enc Tryz.prog Tryz.f4 false true false false) := by
  refine returnsInHanded_of_change (C := Tryz.checked) own started (by kernel_rfl) Tryz.func4
    (ChangeSpec.witness6 (enc := enc) (C := Tryz.checked) false ⟨#[], #[.agg #[.int .i64 0, .int .i64 0, .slice none 0 0, .slice none 0 0, .slice none 0 0], .slice none 0 0], []⟩ 8 (by kernel_rfl) (by kernel_rfl) (by kernel_rfl) (by kernel_rfl)) ?_
  intro W base args ds gs before hval0 hW _ _
  have hval : ∀ (j : Nat) t v, Tryz.f4.params[j]? = some t → args[j]? = some v → Value.okWide Tryz.prog W .any base t v := hval0
  have hW' := hW
  obtain ⟨p, q, hA0, hV, rfl, _, _⟩ := hW
  have hA : DataW.TrodAll enc Tryz.prog W 0 (fun _ => true) true Tryz.f4.params.toList args.toList ds p := hA0
  rw [Tryz.params4] at hA hval
  obtain ⟨v0, v1, d0, d1, p0, p1, rfl, rfl, rfl, h0, h1⟩ := trodAll_two hA
  obtain ⟨rfl, rfl⟩ := trodVars_none hV
  obtain ⟨k, n, q1, n1, c1, ys1, q2, n2, c2, ys2, q3, n3, c3, ys3, rfl, o1, o2, o3⟩ := open_event (hval 0 42 v0 rfl rfl) h0
  obtain ⟨a1, len1, cap1, rfl⟩ := okWide_slice Tryz.underlying34 (hval 1 34 v1 rfl rfl)
  obtain ⟨fuel, hf⟩ := h1
  obtain ⟨sq, sn, sc, zs, hsl, os', hmx⟩ := sl_ints Tryz.underlying34 Tryz.underlying3 cellsI1 (v := .slice a1 len1 cap1) (by simpa [Value.cells] using hf)
  cases hsl
  refine (nils_law k n q1 n1 c1 ys1 q2 n2 c2 ys2 q3 n3 c3 ys3 a1 len1 cap1 zs W o1 o2 o3 os' hmx).mono fun e W' ⟨he, hb⟩ => ?_
  subst he
  exact ⟨_, rfl, law_post laidOut (of_decide_eq_true (by kernel_rfl)) rfl (by kernel_rfl) Tryz.underlying4 hW' ⟨rfl, rfl, rfl⟩ hb⟩

set_option maxRecDepth 1000000 in
theorem nils_holds : Rows.RingNilsSaid :=
  OpenClaim.holds_of_wide 4 Tryz.f4 rfl rfl rfl rfl rfl rfl rfl ⟨rfl, rfl, rfl, rfl, rfl⟩ rfl rfl rfl rfl rfl (by kernel_rfl) Tryz.func4 (by kernel_rfl)
    (of_decide_eq_true (by kernel_rfl)) (by unfold Func.isWrapper; first | (rw [if_pos (by decide +kernel)]; kernel_rfl) | (rw [if_neg (by decide +kernel)]; exact ⟨rfl, rfl⟩))
    (fun os started H enc _ => nils_lifted os started H enc)
end Go.Proofs.YtjhnagipagkhiaaGreat
