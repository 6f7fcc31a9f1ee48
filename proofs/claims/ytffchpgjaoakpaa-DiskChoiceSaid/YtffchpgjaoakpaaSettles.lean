/- DiskSettles: for every size, list of operations and list of bools the law returns true, and its arguments read as they did. No condition. -/
import Derived.Test.YtffchpgjaoakpaaEqBlks
import Derived.Test.YtffchpgjaoakpaaSettlesP
namespace Go.Proofs.Ytffchpgjaoakpaa
open Go.ChangeShapes Go.WideShapes Go.ChangeAt Go.RowKit

theorem At.lts {w : World} {p : Pl} {d : Dk} (k : At w p d) : ∀ x ∈ p.L, x < w.heap.size := fun x hx => by
  simp only [Pl.L, List.mem_cons, List.not_mem_nil, or_false] at hx
  rcases hx with rfl | rfl | rfl
  · exact k.glt
  · exact k.hlt
  · exact k.mlt

/-- a disk of the call's own stays where another one's blocks alone have turned -/
theorem Mine.apart {w W W' : World} {p p2 : Pl} {d : Dk} (h : Mine w W p d) (ht : Tch p2.L W W') (hlow : ∀ x ∈ p2.L, w.heap.size ≤ x) (hap : ∀ x ∈ p.L, x ∉ p2.L) : Mine w W' p d :=
  ⟨h.disk.tch ht (hap _ (g_in p)) (hap _ (h_in p)) (hap _ (m_in p)), h.below.trans (ht.to_below h.below.size hlow), h.low⟩

theorem OwnE.tch {T : TypeId} {s : Nat} {w w' : World} {base : Nat} {q : Option Addr} {n c : Nat} {L : List (List Value)} {M : List Nat} (h : OwnE T s w base (.slice q n c) L) (ht : Tch M w w') (hM : ∀ x ∈ M, x < base) : OwnE T s w' base (.slice q n c) L :=
  h.kept fun a ha => ht.block _ (h.holds.2.2 a ha).2 (fun hin => by have := hM _ hin; have := (h.holds.2.2 a ha).1; omega)

/-- a piece of the bools that came in -/
theorem KeepV.keep {w : World} {q : Option Addr} {n c : Nat} {ks : List Bool} (h : KeepV w (.slice q n c) ks) {k : Nat} (hk : k ≤ n) (L : List Nat) (hL : ∀ x ∈ L, w.heap.size ≤ x) : Keep w (.slice q k c) (ks.take k) L := by
  obtain ⟨q', c', he, _, _, h0, h1⟩ := h
  simp only [Value.slice.injEq] at he
  obtain ⟨rfl, hn, rfl⟩ := he
  have hl : (ks.take k).length = k := by rw [List.length_take]; omega
  refine ⟨q, c, by rw [hl], fun hq => by rw [(h0 hq).1]; simp, fun a ha => ⟨fun hne hin => ?_, fun j x hx => ?_⟩⟩
  · have hj : 0 < (ks.take k).length := List.length_pos_iff.2 hne
    have h2 := h1 a ha 0 _ (List.getElem?_eq_getElem (show 0 < ks.length by omega))
    have h3 := cell_lt h2
    rw [add_block] at h3
    have := hL _ hin
    omega
  · have hj := (List.getElem?_eq_some_iff.1 hx).1
    rw [hl] at hj
    rw [List.getElem?_take_of_lt hj] at hx
    exact h1 a ha j x hx

theorem Keep.stay {w w' : World} {v : Value} {ks : List Bool} {L : List Nat} (h : Keep w v ks L) (hb : Below w.heap.size w w') : Keep w' v ks L := by
  obtain ⟨q, c, he, h0, h1⟩ := h
  exact ⟨q, c, he, h0, fun a ha => ⟨(h1 a ha).1, fun j x hx => Lib.Below.cellOf hb ((h1 a ha).2 j x hx) (Nat.le_refl _)⟩⟩

theorem infoBool : (Try.prog.info? 4).map (fun i => (i.zero, i.size, i.bytes)) = some (some (.bool false), 1, 1) := by kernel_rfl
theorem made_bools (m : Nat) : madeCells #[.bool false] m = (List.replicate m (Value.bool false)).toArray := by
  apply Array.ext
  · simp [madeCells]
  · intro i h1 h2
    simp [madeCells, Nat.mod_one]

structure EvRel (w W : World) (p : Pl) (d : Dk) (g m k : Nat) : Prop where
  mine : Mine w W p d
  row : RowV 4 W g (List.replicate k (.bool true) ++ List.replicate (m - k) (.bool false))

theorem EvRel.step {w W : World} {p : Pl} {d : Dk} {g m k : Nat} (h : EvRel w W p d g m k) (hg : g ∉ p.L) (hgw : w.heap.size ≤ g) (hk : k < m) : EvRel w (W.setCell ⟨g, k, none⟩ (.bool true)) p d g m (k + 1) := by
  have hs := setCell_grown W g k (.bool true)
  refine ⟨⟨h.mine.disk.other hs hg, h.mine.below.grown hs h.mine.below.size (fun j e => by have := Option.some.inj e; omega), h.mine.low⟩, ?_⟩
  have h2 := h.row.set k (.bool true)
  have e : List.replicate (m - k) (Value.bool false) = .bool false :: List.replicate (m - (k + 1)) (.bool false) := by
    rw [show m - k = (m - (k + 1)) + 1 by omega, List.replicate_succ]
  rw [e, List.set_append_right _ _ (by simp), List.length_replicate, Nat.sub_self, List.set_cons_zero] at h2
  rw [List.replicate_succ', List.append_assoc]
  exact h2

set_option maxRecDepth 100000 in
set_option maxHeartbeats 4000000 in
theorem settles_any (n : Int) (v : Value) (os : List OpV) (kq : Option Addr) (kc : Nat) (ks : List Bool) (w : World) (hn : I64 n) (hv : IsOps w v os) (hkv : KeepV w (.slice kq ks.length kc) ks) :
    Calls Try.prog 6 #[.int .i64 n, v, .slice kq ks.length kc] w (fun e w' => e = .returned (.bool true) ∧ Below w.heap.size w w') := by
  have hsz := szOf_le n
  have hv0 := Lib.hid hv
  have hk0 := Lib.hid hkv
  obtain ⟨q, c, rfl, _⟩ := hv.shape
  obtain ⟨_, _, hke, hkc, hkm, _⟩ := hkv
  simp only [Value.slice.injEq] at hke
  obtain ⟨rfl, _, rfl⟩ := hke
  obtain ⟨K, hK⟩ : ∃ K : Nat, K = min ks.length 60 := ⟨_, rfl⟩
  have hmin : min (ks.length : Int) 60 = (K : Int) := by omega
  have hKl : K ≤ ks.length := by omega
  have hKc : (K : Int) ≤ kc := by omega
  clear hv hK
  go_enter Try.func6, Try.ntmps6
  go_wp2_with fail
  refine (wakes_any _).mono ?_
  rintro e w1 ⟨rfl, hb1⟩
  have hB1 : Hid (Below w.heap.size w w1) := hb1
  clear hb1
  go_wp2_with fail
  refine (played_any n _ os w1 hn (hv0.out.below hB1.out (Nat.le_refl _))).mono ?_
  rintro e w2 ⟨p, d, rfl, hm, hc, ho1, ho2⟩
  have m2 : Hid (Mine w w2 p d) := ⟨hm.disk, hB1.out.trans (hm.below.mono hB1.out.size), fun x hx => Nat.le_trans hB1.out.size (hm.low x hx)⟩
  have hc2 := Lib.hid hc
  have hop := Lib.hid (And.intro ho1 ho2)
  clear hm hc ho1 ho2
  go_wp2_with fail
  refine (pending_any p d w2 m2.out.disk).mono ?_
  rintro e w3 ⟨vp, rfl, hA, hown, hb⟩
  have m3 := Lib.hid (m2.out.stay hb)
  obtain ⟨qp, cp, rfl⟩ := owns_shape hown
  obtain ⟨m, hm⟩ : ∃ m, d.pend.length = m := ⟨_, rfl⟩
  have hm' := Lib.hid hm
  have hmb : m ≤ 2048 := by
    have h1 := d.pend_len
    have h2 := m2.out.disk.good.n
    omega
  rw [hm]
  have hmk : ∀ u : World, (Instr.makeSlice 33 (.int .i64 (m : Int)) (.int .i64 (m : Int))).run Try.prog u = .ok (.slice (some ⟨u.heap.size, 0, none⟩) m m) (u.alloc (.cells (List.replicate m (Value.bool false)).toArray 4)) := fun u => by
    obtain ⟨i0, hi, hz0, hz1, hz2⟩ := info_parts infoBool
    have h := run_make (P := Try.prog) u 33 4 i0 (.bool false) Try.underlying33 hi hz0 .i64 .i64 (m : Int) (m : Int) (by omega) (Int.le_refl _) (by rw [hz2]; omega) (by omega)
    rw [Int.toNat_natCast, hz1, Nat.mul_one, show (Value.bool false).cells = #[.bool false] from rfl, made_bools] at h
    exact h
  have hrel0 : Hid (EvRel w (w3.alloc (.cells (List.replicate m (Value.bool false)).toArray 4)) p d w3.heap.size m 0) := ⟨m3.out.stay ((Below.refl _ _).alloc (Nat.le_refl _) _), RowV.made w3 _⟩
  have hg3 := Lib.hid (m3.out.disk.not_in (Nat.le_refl _))
  have hgw : Hid (w.heap.size ≤ w3.heap.size) := m3.out.below.size
  clear hA hown hb hm
  go_wp2_with fail
  clear hmk
  go_loopw [33] (fun v33 wr => ∃ k : Nat, k ≤ m ∧ v33 = .int .i64 k ∧ Hid (EvRel w wr p d w3.heap.size m k)) (fun v33 _ => m - (intOf v33).toNat)
  case atStart => exact ⟨0, Nat.zero_le _, rfl, hrel0⟩
  case round =>
    obtain ⟨k, hk, rfl, hr⟩ := hrel
    by_cases hlt : k < m
    · have hnext := Lib.hid (hr.out.step hg3.out hgw.out hlt)
      have hfr := hr.out.row.free k
      have hcl : wr.cell? ⟨w3.heap.size, k, none⟩ = some (.bool false) := by
        rw [hr.out.row.cell k, List.getElem?_append_right (by simp), List.length_replicate, Nat.sub_self, List.getElem?_replicate, if_pos (by omega)]
      clear hr
      go_wp2
      go_roundw
      case rel => exact ⟨k + 1, by omega, by go_num, hnext⟩
      case measure => simp [intOf]; omega
    · obtain rfl : m = k := by omega
      have m4 := Lib.hid hr.out.mine
      have r4 : Hid (RowV 4 wr w3.heap.size ((List.replicate m true).map Value.bool)) := by
        have h := hr.out.row
        rw [Nat.sub_self, List.replicate_zero, List.append_nil] at h
        rw [List.map_replicate]
        exact h
      clear hr
      go_wp2_with fail
      refine (copy_any p d wr m4.out.disk).mono ?_
      rintro e w5 ⟨p2, rfl, hA, hb, hL⟩
      have m5 := Lib.hid (m4.out.stay hb)
      have c5 := Lib.hid hA
      have r5 := Lib.hid (r4.out.below hb)
      have hlow2 : Hid (∀ x ∈ p2.L, w.heap.size ≤ x) := fun x hx => Nat.le_trans m4.out.below.size (hL x hx)
      have hap : Hid (∀ x ∈ p.L, x ∉ p2.L) := fun x hx hx2 => by
        have h1 := m4.out.disk.lts x hx
        have h2 := hL x hx2
        omega
      have hap2 : Hid (∀ x ∈ p2.L, x ∉ p.L) := fun x hx hx2 => hap.out x hx2 hx
      have hgp2 : Hid (w3.heap.size ∉ p2.L) := fun hx => by have h1 := hL _ hx; have h2 := r4.out.lt; omega
      clear hA hb hL m4 r4
      go_wp2_with fail
      refine (crash_any p2 d w5 c5.out (.slice (some ⟨w3.heap.size, 0, none⟩) m m) (List.replicate m true) (by
        have h := row_keep r5.out m p2.L hgp2.out
        rwa [List.length_replicate] at h)).mono ?_
      rintro e w6 ⟨rfl, hA, hT⟩
      have c6 := Lib.hid hA
      have m6 := Lib.hid (m5.out.apart hT hlow2.out hap.out)
      clear hA hT
      have hsy := Lib.hid (sync_any p d w6 m6.out.disk hop.out.1 (by have := hop.out.2; omega))
      rw [hc2.out.sy] at hsy
      go_wp2_with fail
      refine hsy.out.mono ?_
      clear hsy
      rintro e w7 ⟨rfl, hA, hT⟩
      have m7 : Hid (Mine w w7 p (hd1 d)) := m6.out.tch hA hT
      have c7 := Lib.hid (c6.out.tch hT (hap2.out _ (g_in p2)) (hap2.out _ (h_in p2)) (hap2.out _ (m_in p2)))
      clear hA hT
      go_wp2_with fail
      refine (all_any p2 (crRes d (List.replicate m true)) (szOf n) w7 c7.out (calm_cr hc2.out _) hop.out.1 (by have := hop.out.2; show d.ops ≤ 1000000; omega)).mono ?_
      rintro e w8 ⟨qa, ca, rfl, ho, hb⟩
      have a8 := Lib.hid ho
      have m8 := Lib.hid (m7.out.stay hb)
      have g8 := Lib.hid (says64 c7.out.good)
      have hes := Lib.hid (every_sync d)
      rw [hm'.out] at hes
      rw [hes.out] at a8 g8
      clear ho hb
      go_wp2_with fail
      refine (all_any p (hd1 d) (szOf n) w8 m8.out.disk (calm1 hc2.out) (by have := hop.out.1; show (0 : Int) ≤ d.ops + 1; omega) (by have := hop.out.2; show d.ops + 1 ≤ 1000000; omega)).mono ?_
      rintro e w9 ⟨qb, cb, rfl, ho, hb⟩
      have a9 := Lib.hid (a8.out.below hb)
      have b9 := Lib.hid ho
      have m9 := Lib.hid (m8.out.stay hb)
      have hpl := Lib.hid m8.out.disk.lts
      clear ho hb
      go_wp2_with fail
      refine (eqBlks_any qa qb (szOf n) ca (szOf n) cb _ _ w9 a9.out.holds.1 b9.out.holds.1 g8.out g8.out (by omega) (by omega)).mono ?_
      rintro e w10 ⟨rfl, hb⟩
      rw [show (saysL (hd1 d) == saysL (hd1 d)) = true by rw [beq_iff_eq]]
      have b10 := Lib.hid (b9.out.below hb)
      have m10 := Lib.hid (m9.out.stay hb)
      clear hb
      go_wp2_with fail
      refine (pending_any p (hd1 d) w10 m10.out.disk).mono ?_
      rintro e w11 ⟨vz, rfl, hA, hown, hb⟩
      rw [pend_none (d := hd1 d) rfl] at hown
      obtain ⟨qz, cz, rfl⟩ := owns_shape hown
      have b11 := Lib.hid (b10.out.below hb)
      have m11 := Lib.hid (m10.out.stay hb)
      clear hA hown hb
      have hkc' : (0 : Int) ≤ kc := by omega
      go_wp2_with fail
      refine (crash_any p (hd1 d) w11 m11.out.disk (.slice kq K kc) (ks.take K) (((hk0.out).keep hKl p.L m11.out.low).stay m11.out.below)).mono ?_
      rintro e w12 ⟨rfl, hA, hT⟩
      have m12 := Lib.hid (m11.out.tch hA hT)
      have b12 := Lib.hid (b11.out.tch hT hpl.out)
      clear hA hT
      have hcs := Lib.hid (crash_synced d (ks.take K))
      go_wp2_with fail
      refine (all_any p (crRes (hd1 d) (ks.take K)) (szOf n) w12 m12.out.disk (calm_cr (calm1 hc2.out) _) (by have := hop.out.1; show (0 : Int) ≤ d.ops + 1; omega) (by have := hop.out.2; show d.ops + 1 ≤ 1000000; omega)).mono ?_
      rintro e w13 ⟨qd, cd, rfl, ho, hb⟩
      rw [hcs.out] at ho
      have d13 := Lib.hid ho
      have b13 := Lib.hid (b12.out.below hb)
      have m13 := Lib.hid (m12.out.stay hb)
      clear ho hb
      go_wp2_with fail
      refine (eqBlks_any qd qb (szOf n) cd (szOf n) cb _ _ w13 d13.out.holds.1 b13.out.holds.1 g8.out g8.out (by omega) (by omega)).mono ?_
      rintro e w14 ⟨rfl, hb⟩
      rw [show (saysL (hd1 d) == saysL (hd1 d)) = true by rw [beq_iff_eq]]
      have m14 := Lib.hid (m13.out.stay hb)
      clear hb
      go_wp2_with fail
      go_ret
      exact ⟨rfl, m14.out.below⟩

end Go.Proofs.Ytffchpgjaoakpaa
