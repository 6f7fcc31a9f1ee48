/- DiskChoice: the walk. -/
import Derived.Test.YtffchpgjaoakpaaSettles
import Derived.Test.YtffchpgjaoakpaaChoiceP
namespace Go.Proofs.Ytffchpgjaoakpaa
open Go.ChangeShapes Go.WideShapes Go.ChangeAt Go.RowKit

/-- the pending ones, as the call itself holds them -/
def PendRow (w : World) (base : Nat) (v : Value) (xs : List Int) : Prop := w.ownsRow base 3 1 v xs.length (xs.map encZ)
theorem PendRow.below {w w' : World} {base : Nat} {v : Value} {xs : List Int} (h : PendRow w base v xs) (hb : Below w.heap.size w w') : PendRow w' base v xs := by
  refine ⟨h.1, ?_⟩
  rcases h.2 with hn | ⟨g, cap, cur, rfl, hg, hh, rest⟩
  · exact .inl hn
  · exact .inr ⟨g, cap, cur, rfl, hg, by rw [hb.block g (Array.getElem?_eq_some_iff.1 hh).1]; exact hh, rest⟩

theorem bsearch_any (base : Nat) (q : Option Addr) (m c : Nat) (xs : List Int) (x : Int) (w : World) (h : PendRow w base (.slice q m c) xs) (hl : xs.length ≤ 2048) (hs : xs.Pairwise (· ≤ ·)) :
    Calls Try.prog 26 #[.slice q m c, .int .i64 x] w (fun e w' => e = .returned (.tuple #[.int .i64 (xs.countP (fun y => decide (y < x)) : Nat), .bool (xs.contains x)]) ∧ Below w.heap.size w w') := by
  rcases h.2 with ⟨he, h0⟩ | ⟨g, cap, cur, he, hg, hh, hle, hm, hsz, htk⟩
  · simp only [Value.slice.injEq] at he
    obtain ⟨rfl, rfl, rfl⟩ := he
    have hx : xs = [] := List.eq_nil_of_length_eq_zero (by first | exact h0 | simpa using h0)
    subst hx
    refine (Try.slices_BinarySearch_int_empty none 0 x w).mono ?_
    rintro e w' ⟨rfl, rfl⟩
    exact ⟨rfl, Below.refl _ _⟩
  · simp only [Value.slice.injEq] at he
    obtain ⟨rfl, rfl, rfl⟩ := he
    refine (Try.slices_BinarySearch_int g 0 xs.length c xs x w (Nat.le_refl _) (by omega) (fun j hj => ?_) (by rw [List.take_length]; exact hs)).mono ?_
    · rw [Nat.zero_add, cell_of_row w g j cur 3 (0, 0) hh]
      have h3 := congrArg (·[j]?) htk
      simp only [Nat.mul_one] at h3
      rw [List.getElem?_take_of_lt hj] at h3
      rw [← Array.getElem?_toList, h3]
      simp [List.getD, hj, encZ]
    · rintro e w' ⟨rfl, k, rfl⟩
      rw [List.take_length]
      exact ⟨rfl, below_drewN w k⟩

theorem PendRow.tch {w w' : World} {base : Nat} {q : Option Addr} {m c : Nat} {xs : List Int} {M : List Nat} (h : PendRow w base (.slice q m c) xs) (ht : Tch M w w') (hM : ∀ x ∈ M, x < base) : PendRow w' base (.slice q m c) xs := by
  refine ⟨h.1, ?_⟩
  rcases h.2 with hn | ⟨g, cap, cur, he, hg, hh, rest⟩
  · exact .inl hn
  · exact .inr ⟨g, cap, cur, he, hg, by rw [ht.block g (Array.getElem?_eq_some_iff.1 hh).1 (fun hin => by have := hM _ hin; omega)]; exact hh, rest⟩

structure ChoRel (w wr : World) (p : Pl) (dk : Dk) (B : Nat) (qi qs qh qp : Option Addr) (n m ci cs ch cp : Nat) (Li Ls Lh : List (List Int)) (pend : List Int) : Prop where
  mine : Mine w wr p dk
  is : OwnE 37 64 wr B (.slice qi n ci) (Li.map bl)
  said : OwnE 37 64 wr B (.slice qs n cs) (Ls.map bl)
  held : OwnE 37 64 wr B (.slice qh n ch) (Lh.map bl)
  pend : PendRow wr B (.slice qp m cp) pend

theorem ChoRel.stay {w wr w' : World} {p : Pl} {dk : Dk} {B : Nat} {qi qs qh qp : Option Addr} {n m ci cs ch cp : Nat} {Li Ls Lh : List (List Int)} {pend : List Int} (h : ChoRel w wr p dk B qi qs qh qp n m ci cs ch cp Li Ls Lh pend) (hb : Below wr.heap.size wr w') : ChoRel w w' p dk B qi qs qh qp n m ci cs ch cp Li Ls Lh pend :=
  ⟨h.mine.stay hb, h.is.below hb, h.said.below hb, h.held.below hb, h.pend.below hb⟩

theorem elem_cells {w : World} {a : Addr} {n c i : Nat} {xs : List (List Int)} {b : List Int} (h : HoldsE w (.slice (some a) n c) (xs.map bl)) (hE : ∀ x ∈ xs, x.length = 64) (hb : xs[i]? = some b) :
    ∀ j v, (bl b)[j]? = some v → w.cell? ((a.add (i * 64)).add j) = some v := by
  have hEach : Each 64 (xs.map bl) := fun e he => by
    obtain ⟨x, hx, rfl⟩ := List.mem_map.1 he
    exact ⟨by rw [bl_len, hE x hx], bl_one x⟩
  have hn := holdsE_len h
  have hi : i < xs.length := (List.getElem?_eq_some_iff.1 hb).1
  obtain ⟨a', e, ha, he, hc⟩ := holdsE_at h hEach (i := i) (by rw [hn, List.length_map]; exact hi)
  cases ha
  rw [List.getElem?_map, hb] at he
  obtain rfl := Option.some.inj he
  exact hc
theorem OwnE.some_addr {T : TypeId} {s : Nat} {w : World} {base : Nat} {q : Option Addr} {n c : Nat} {L : List (List Value)} (h : OwnE T s w base (.slice q n c) L) (hn : 0 < n) : ∃ a, q = some a := by
  obtain ⟨⟨_, ⟨he, h0⟩ | ⟨g, cap, cur, he, _⟩⟩, _⟩ := h
  · simp only [Value.slice.injEq] at he; omega
  · simp only [Value.slice.injEq] at he; exact ⟨_, he.1⟩

theorem ChoRel.over {w wr wa w' : World} {p : Pl} {dk : Dk} {B : Nat} {qi qs qh qp : Option Addr} {n m ci cs ch cp : Nat} {Li Ls Lh : List (List Int)} {pend : List Int} {X : List Value} (h : ChoRel w wr p dk B qi qs qh qp n m ci cs ch cp Li Ls Lh pend) (ha : ChoRel w wa p dk B qi qs qh qp n m ci cs ch cp Li Ls Lh pend)
    (hx : RowV 37 wr wa.heap.size X) (hg : wr.grownBy w' (some wa.heap.size)) : ChoRel w w' p dk B qi qs qh qp n m ci cs ch cp Li Ls Lh pend := by
  have far : ∀ {q : Option Addr} {c' : Nat} {L : List (List Value)}, OwnE 37 64 wa B (.slice q n c') L → OwnE 37 64 wr B (.slice q n c') L → OwnE 37 64 w' B (.slice q n c') L := fun {q c' L} h1 h2 => h2.kept (fun a hq => by
    have l1 := (h1.holds.2.2 a hq).2
    exact hg.block _ (h2.holds.2.2 a hq).2 (fun e => by have := Option.some.inj e; omega))
  have hn := ha.mine.disk.not_in (Nat.le_refl wa.heap.size)
  refine ⟨⟨h.mine.disk.other hg hn, h.mine.below.grown hg h.mine.below.size (fun j e => by have := Option.some.inj e; have := ha.mine.below.size; omega), h.mine.low⟩, far ha.is h.is, far ha.said h.said, far ha.held h.held, h.pend.1, ?_⟩
  rcases h.pend.2 with hn | ⟨g, cap, cur, he, hg', hh, rest⟩
  · exact .inl hn
  · refine .inr ⟨g, cap, cur, he, hg', ?_, rest⟩
    have hgr : wr.heap[g]? = w'.heap[g]? := (hg.block g (Array.getElem?_eq_some_iff.1 hh).1 (fun e => by
      have e2 := Option.some.inj e
      unfold RowV at hx
      rw [← e2, hh] at hx
      simp at hx)).symm
    rw [← hgr]; exact hh

set_option maxRecDepth 100000 in
set_option maxHeartbeats 4000000 in
theorem choice_any (n : Int) (v : Value) (os : List OpV) (kq : Option Addr) (kc : Nat) (ks : List Bool) (w : World) (hn : I64 n) (hv : IsOps w v os) (hkv : KeepV w (.slice kq ks.length kc) ks) :
    Calls Try.prog 5 #[.int .i64 n, v, .slice kq ks.length kc] w (fun e w' => e = .returned (.bool true) ∧ Below w.heap.size w w') := by
  have hsz := szOf_le n
  have hv0 := Lib.hid hv
  have hk0 := Lib.hid hkv
  obtain ⟨q, c, rfl, _⟩ := hv.shape
  obtain ⟨_, _, hke, hkc, hkm, _⟩ := hkv
  simp only [Value.slice.injEq] at hke
  obtain ⟨rfl, _, rfl⟩ := hke
  obtain ⟨K, hK⟩ : ∃ K : Nat, K = min ks.length 60 := ⟨_, rfl⟩
  have hmin : min (ks.length : Int) 60 = (K : Int) := by omega
  have hKl : K ≤ ks.length := by omega
  have hKc : (K : Int) ≤ kc := by omega
  have hkc' : (0 : Int) ≤ kc := by omega
  have hK60 : K ≤ 60 := by omega
  clear hv hK
  go_enter Try.func5, Try.ntmps5
  go_wp2_with fail
  refine (wakes_any _).mono ?_
  rintro e w1 ⟨rfl, hb1⟩
  have hB1 : Hid (Below w.heap.size w w1) := hb1
  clear hb1
  go_wp2_with fail
  refine (played_any n _ os w1 hn (hv0.out.below hB1.out (Nat.le_refl _))).mono ?_
  rintro e w2 ⟨p, d, rfl, hm, hc, ho1, ho2⟩
  have m2 : Hid (Mine w w2 p d) := ⟨hm.disk, hB1.out.trans (hm.below.mono hB1.out.size), fun x hx => Nat.le_trans hB1.out.size (hm.low x hx)⟩
  have hc2 := Lib.hid hc
  have hop := Lib.hid (And.intro ho1 ho2)
  have hgd := Lib.hid hm.disk.good
  clear hm hc ho1 ho2
  go_wp2_with fail
  refine (copy_any p d w2 m2.out.disk).mono ?_
  rintro e w3 ⟨p2, rfl, hA, hb, hL⟩
  have m3 := Lib.hid (m2.out.stay hb)
  have c3 := Lib.hid hA
  have hlow2 : Hid (∀ x ∈ p2.L, w.heap.size ≤ x) := fun x hx => Nat.le_trans m2.out.below.size (hL x hx)
  have hap : Hid (∀ x ∈ p.L, x ∉ p2.L) := fun x hx hx2 => by
    have h1 := m2.out.disk.lts x hx
    have h2 := hL x hx2
    omega
  have hap2 : Hid (∀ x ∈ p2.L, x ∉ p.L) := fun x hx hx2 => hap.out x hx2 hx
  have hp3 := Lib.hid m3.out.disk.lts
  have hq3 := Lib.hid c3.out.lts
  clear hA hb hL
  go_wp2_with fail
  refine (pending_any p d w3 m3.out.disk).mono ?_
  rintro e w4 ⟨vp, rfl, hA, hown, hb⟩
  have m4 := Lib.hid (m3.out.stay hb)
  have c4 := Lib.hid (c3.out.below hb)
  obtain ⟨qp, cp, rfl⟩ := owns_shape hown
  have hpd4 : Hid (PendRow w4 w3.heap.size (.slice qp d.pend.length cp) d.pend) := hown
  have hs3 : Hid (w3.heap.size ≤ w4.heap.size) := hb.size
  clear hA hown hb
  go_wp2_with fail
  refine (all_any p d (szOf n) w4 m4.out.disk hc2.out hop.out.1 (by have := hop.out.2; omega)).mono ?_
  rintro e w5 ⟨qs, cs, rfl, ho, hb⟩
  have m5 := Lib.hid (m4.out.stay hb)
  have c5 := Lib.hid (c4.out.below hb)
  have s5 := Lib.hid (ho.lower hs3.out)
  have hpd5 := Lib.hid (hpd4.out.below hb)
  have hs5 : Hid (w3.heap.size ≤ w5.heap.size) := Nat.le_trans hs3.out hb.size
  clear ho hb hpd4 m4 c4
  go_wp2_with fail
  refine (crash_any p2 d w5 c5.out (.slice none 0 0) [] ⟨none, 0, rfl, fun _ => rfl, fun a ha => by cases ha⟩).mono ?_
  rintro e w6 ⟨rfl, hA, hT⟩
  have c6 := Lib.hid hA
  have m6 := Lib.hid (m5.out.apart hT hlow2.out hap.out)
  have s6 := Lib.hid (s5.out.tch hT hq3.out)
  have hpd6 : Hid (PendRow w6 w3.heap.size (.slice qp d.pend.length cp) d.pend) := hpd5.out.tch hT hq3.out
  have hs6 : Hid (w3.heap.size ≤ w6.heap.size) := Nat.le_trans hs5.out hT.size
  clear hA hT m5 c5 s5 hpd5
  go_wp2_with fail
  refine (crash_any p d w6 m6.out.disk (.slice kq K kc) (ks.take K) (((hk0.out).keep hKl p.L m6.out.low).stay m6.out.below)).mono ?_
  rintro e w7 ⟨rfl, hA, hT⟩
  have m7 := Lib.hid (m6.out.tch hA hT)
  have c7 := Lib.hid (c6.out.tch hT (hap2.out _ (g_in p2)) (hap2.out _ (h_in p2)) (hap2.out _ (m_in p2)))
  have s7 := Lib.hid (s6.out.tch hT hp3.out)
  have hpd7 : Hid (PendRow w7 w3.heap.size (.slice qp d.pend.length cp) d.pend) := hpd6.out.tch hT hp3.out
  have hs7 : Hid (w3.heap.size ≤ w7.heap.size) := Nat.le_trans hs6.out hT.size
  clear hA hT m6 c6 s6 hpd6
  go_wp2_with fail
  refine (all_any p2 (crRes d []) (szOf n) w7 c7.out (calm_cr hc2.out _) hop.out.1 (by have := hop.out.2; show d.ops ≤ 1000000; omega)).mono ?_
  rintro e w8 ⟨qh, ch, rfl, ho, hb⟩
  have m8 := Lib.hid (m7.out.stay hb)
  have g8 := Lib.hid (says64 c7.out.good)
  have s8 := Lib.hid (s7.out.below hb)
  have h8 := Lib.hid (ho.lower hs7.out)
  have hpd8 := Lib.hid (hpd7.out.below hb)
  have hs8 : Hid (w3.heap.size ≤ w8.heap.size) := Nat.le_trans hs7.out hb.size
  clear ho hb m7 c7 s7 hpd7
  go_wp2_with fail
  refine (all_any p (crRes d (ks.take K)) (szOf n) w8 m8.out.disk (calm_cr hc2.out _) hop.out.1 (by have := hop.out.2; show d.ops ≤ 1000000; omega)).mono ?_
  rintro e w9 ⟨qi, ci, rfl, ho, hb⟩
  have gi := Lib.hid (says64 m8.out.disk.good)
  have hrel0 : Hid (ChoRel w w9 p (crRes d (ks.take K)) w3.heap.size qi qs qh qp (szOf n) d.pend.length ci cs ch cp (saysL (crRes d (ks.take K))) (saysL d) (saysL (crRes d [])) d.pend) := ⟨m8.out.stay hb, ho.lower hs8.out, s8.out.below hb, h8.out.below hb, hpd8.out.below hb⟩
  have gs := Lib.hid (says64 hgd.out)
  clear ho hb m8 s8 h8 hpd8
  go_wp2_with fail
  go_loopw [74] (fun v74 wr => ∃ i : Nat, i ≤ szOf n ∧ v74 = .int .i64 i ∧ Hid (ChoRel w wr p (crRes d (ks.take K)) w3.heap.size qi qs qh qp (szOf n) d.pend.length ci cs ch cp (saysL (crRes d (ks.take K))) (saysL d) (saysL (crRes d [])) d.pend)) (fun v74 _ => szOf n - (intOf v74).toNat)
  case atStart => exact ⟨0, Nat.zero_le _, rfl, hrel0⟩
  case round =>
    obtain ⟨i, hi, rfl, hr⟩ := hrel
    by_cases hlt : i < szOf n
    · have hlk : (ks.take K).length = K := by rw [List.length_take]; omega
      obtain ⟨H, hH⟩ : ∃ H, d.hold (i : Int) = H := ⟨_, rfl⟩
      obtain ⟨S, hS0⟩ : ∃ S, d.says (i : Int) = S := ⟨_, rfl⟩
      have hLh : Hid ((saysL (crRes d []))[i]? = some H) := by show _ = _; rw [saysL_get (by rw [(calm_cr hc2.out []).len]; exact hlt), says_held hgd.out, hH]
      have hLs0 : (saysL d)[i]? = some S := by rw [saysL_get (by rw [hc2.out.len]; exact hlt), hS0]
      have hLi0 : (saysL (crRes d (ks.take K)))[i]? = some (if (d.pend.contains (i : Int) && keepOf (ks.take K) (nthOf d i)) = true then S else H) := by
        rw [saysL_get (by rw [(calm_cr hc2.out _).len]; exact hlt), says_crash hgd.out, hS0, hH]
      have hH64 : H.length = 64 := g8.out H (List.mem_of_getElem? hLh.out)
      have hS64 : S.length = 64 := gs.out S (List.mem_of_getElem? hLs0)
      have hbs0 := bsearch_any w3.heap.size qp d.pend.length cp d.pend (i : Int) wr hr.out.pend (by have h1 := d.pend_len; have h2 := hgd.out.n; omega) ((Dk.rising hgd.out).lt.imp (fun h => Int.le_of_lt h))
      have hthere := Lib.hid (fun h => says_there hgd.out (i := i) h)
      unfold nthOf at hLi0
      obtain ⟨cnt, hcnt⟩ : ∃ cnt, d.pend.countP (fun y => decide (y < (i : Int))) = cnt := ⟨_, rfl⟩
      obtain ⟨th, hth⟩ : ∃ th, d.pend.contains (i : Int) = th := ⟨_, rfl⟩
      rw [hcnt, hth] at hbs0 hLi0
      rw [hth] at hthere
      have gh := g8
      obtain ⟨ah, rfl⟩ := hr.out.held.some_addr (by omega)
      obtain ⟨sa, rfl⟩ := hr.out.said.some_addr (by omega)
      obtain ⟨ai, rfl⟩ := hr.out.is.some_addr (by omega)
      have hbs := Lib.hid hbs0
      have hth' := Lib.hid hth
      have hcnt' := Lib.hid hcnt
      have i0 : (0 : Int) ≤ (i : Int) := by omega
      have i1 : (i : Int) < (szOf n : Int) := by omega
      have j0 : (0 : Int) ≤ (cnt : Int) := by omega
      clear hbs0 hth hcnt
      cases th with
      | false =>
        have hLi : Hid ((saysL (crRes d (ks.take K)))[i]? = some H) := by show _ = _; rw [hLi0]; simp
        have hLs : Hid ((saysL d)[i]? = some H) := by show _ = _; rw [hLs0, ← hS0, hthere.out rfl, hH]
        clear hLi0 hLs0 hS0 hH hthere
        go_wp2_with (first
          | (go_at_call 26; refine hbs.out.mono ?_; rintro e wa ⟨rfl, hba⟩
             have ra := Lib.hid (hr.out.stay hba)
             have rz : Hid (RowV 37 (wa.alloc (.cells (bl z64).toArray 37)) wa.heap.size (bl z64)) := RowV.made wa _
             have hcH := elem_cells ra.out.held.holds.1 gh.out hLh.out
             have hcH' := Lib.hid hcH
             clear hba hcH)
          | (with_reducible refine wpList_load_at rfl 37 (.tmp 85) rfl Try.underlying37 rfl (vs := bl H) (bl_size hH64) rfl hcH'.out ?_)
          | (with_reducible refine wpList_alloc_z rfl 37 rfl alloc37z ?_)
          | ((with_reducible refine wpList_store_at rfl 37 (.tmp 18) (.tmp 86) rfl (o := 0) rfl rfl rz.out (bl_size hH64) (bl_fits hH64 z64_len) (bl_one H) ?_)
             intro wb hrb hgb
             rw [bl_splice hH64 z64_len] at hrb
             have hbb : Below wa.heap.size wa wb := ((Below.refl _ _).alloc (Nat.le_refl _) _).grown hgb (by rw [World.size_alloc]; omega) (fun j e => by have := Option.some.inj e; omega)
             have rb := Lib.hid (ra.out.stay hbb)
             have xb := Lib.hid hrb
             clear hrb hgb hbb))
        refine wp_region_held (S := fun W => HoldsE W (.slice (some ai) (szOf n) ci) ((saysL (crRes d (ks.take K))).map bl) ∧ HoldsE W (.slice (some sa) (szOf n) cs) ((saysL d).map bl) ∧ HoldsE W (.slice (some ah) (szOf n) ch) ((saysL (crRes d [])).map bl) ∧ RowV 37 W wa.heap.size (bl H)) (by kernel_rfl) ?_
        change wpAnyH _ _ _ _ _ _ _ _ (World.drew wb)
        have rd := Lib.hid (rb.out.stay (below_drewN wb 1))
        have hS : HoldsE wb.drew (.slice (some ai) (szOf n) ci) ((saysL (crRes d (ks.take K))).map bl) ∧ HoldsE wb.drew (.slice (some sa) (szOf n) cs) ((saysL d).map bl) ∧ HoldsE wb.drew (.slice (some ah) (szOf n) ch) ((saysL (crRes d [])).map bl) ∧ RowV 37 wb.drew wa.heap.size (bl H) := ⟨rd.out.is.holds.1, rd.out.said.holds.1, rd.out.held.holds.1, xb.out.block rfl⟩
        refine held_take (i := 0) (dst := some 104) rfl rfl (by kernel_rfl) (by kernel_rfl) (by kernel_rfl) (fun _ _ _ h => h) (y_move (.tmp 13) rfl rfl rfl) hS ?_
        go_frame
        refine held_take (i := 1) (dst := some 105) rfl rfl (by kernel_rfl) (by kernel_rfl) (by kernel_rfl) (fun _ _ _ h => h) (y_move (.tmp 15) rfl rfl rfl) hS ?_
        go_frame
        refine held_take (i := 2) (dst := some 106) (v := .pointer (some (ai.add (i * 64)))) rfl rfl (by kernel_rfl) (by kernel_rfl) (by kernel_rfl) (fun _ _ _ h => h) (.inl ⟨rfl, fun W _ => by go_simp⟩) hS ?_
        go_frame
        refine held_take (i := 3) (dst := some 107) (v := agg H) rfl rfl (by kernel_rfl) (by kernel_rfl) (by kernel_rfl) (fun _ _ _ h => h) (y_load_agg 37 (.tmp 106) rfl rfl rfl (fun W hW => load_elem hW.1 gi.out hLi.out)) hS ?_
        go_frame
        refine held_take (i := 4) (dst := some 108) (v := agg H) rfl rfl (by kernel_rfl) (by kernel_rfl) (by kernel_rfl) (fun _ _ _ h => h) (y_load_agg 37 (.tmp 18) rfl rfl rfl (fun W hW => load_blk hW.2.2.2 hH64)) hS ?_
        go_frame
        refine held_take (i := 5) (dst := some 109) (v := .bool (!(H == H))) rfl rfl (by kernel_rfl) (by kernel_rfl) (by kernel_rfl) (fun _ _ _ h => h) (y_neq_blk rfl rfl rfl rfl hH64 hH64) hS ?_
        go_frame
        refine held_take (i := 6) (dst := some 110) (v := .bool false) rfl rfl (by kernel_rfl) (by kernel_rfl) (by kernel_rfl) (fun _ _ _ h => h) (.inl ⟨rfl, fun W _ => by go_simp⟩) hS ?_
        go_frame
        refine held_take (i := 7) (dst := some 111) rfl rfl (by kernel_rfl) (by kernel_rfl) (by kernel_rfl) (fun _ _ _ h => h) (y_move (.tmp 17) rfl rfl rfl) hS ?_
        go_frame
        refine held_take (i := 8) (dst := some 112) (v := .bool true) rfl rfl (by kernel_rfl) (by kernel_rfl) (by kernel_rfl) (fun _ _ _ h => h) (.inl ⟨rfl, fun W _ => by go_simp⟩) hS ?_
        go_frame
        refine held_take (i := 9) (dst := some 113) rfl rfl (by kernel_rfl) (by kernel_rfl) (by kernel_rfl) (fun _ _ _ h => h) (y_move (.tmp 112) rfl rfl rfl) hS ?_
        go_frame
        refine held_take (i := 10) (dst := some 114) rfl rfl (by kernel_rfl) (by kernel_rfl) (by kernel_rfl) (fun _ _ _ h => h) (y_move (.tmp 11) rfl rfl rfl) hS ?_
        go_frame
        refine held_take (i := 11) (dst := some 115) rfl rfl (by kernel_rfl) (by kernel_rfl) (by kernel_rfl) (fun _ _ _ h => h) (y_move (.tmp 15) rfl rfl rfl) hS ?_
        go_frame
        refine held_take (i := 12) (dst := some 116) (v := .pointer (some (sa.add (i * 64)))) rfl rfl (by kernel_rfl) (by kernel_rfl) (by kernel_rfl) (fun _ _ _ h => h) (.inl ⟨rfl, fun W _ => by go_simp⟩) hS ?_
        go_frame
        refine held_take (i := 13) (dst := some 117) (v := agg H) rfl rfl (by kernel_rfl) (by kernel_rfl) (by kernel_rfl) (fun _ _ _ h => h) (y_load_agg 37 (.tmp 116) rfl rfl rfl (fun W hW => load_elem hW.2.1 gs.out hLs.out)) hS ?_
        go_frame
        refine held_take (i := 14) (dst := some 118) rfl rfl (by kernel_rfl) (by kernel_rfl) (by kernel_rfl) (fun _ _ _ h => h) (y_move (.tmp 12) rfl rfl rfl) hS ?_
        go_frame
        refine held_take (i := 15) (dst := some 119) rfl rfl (by kernel_rfl) (by kernel_rfl) (by kernel_rfl) (fun _ _ _ h => h) (y_move (.tmp 15) rfl rfl rfl) hS ?_
        go_frame
        refine held_take (i := 16) (dst := some 120) (v := .pointer (some (ah.add (i * 64)))) rfl rfl (by kernel_rfl) (by kernel_rfl) (by kernel_rfl) (fun _ _ _ h => h) (.inl ⟨rfl, fun W _ => by go_simp⟩) hS ?_
        go_frame
        refine held_take (i := 17) (dst := some 121) (v := agg H) rfl rfl (by kernel_rfl) (by kernel_rfl) (by kernel_rfl) (fun _ _ _ h => h) (y_load_agg 37 (.tmp 120) rfl rfl rfl (fun W hW => load_elem hW.2.2.1 gh.out hLh.out)) hS ?_
        go_frame
        refine held_take (i := 18) (dst := some 122) (v := .bool (!(H == H))) rfl rfl (by kernel_rfl) (by kernel_rfl) (by kernel_rfl) (fun _ _ _ h => h) (y_neq_blk rfl rfl rfl rfl hH64 hH64) hS ?_
        go_frame
        refine held_take (i := 19) (dst := some 123) (v := .bool false) rfl rfl (by kernel_rfl) (by kernel_rfl) (by kernel_rfl) (fun _ _ _ h => h) (.inl ⟨rfl, fun W _ => by go_simp⟩) hS ?_
        go_frame
        refine held_take (i := 20) (dst := some 124) (v := .bool false) rfl rfl (by kernel_rfl) (by kernel_rfl) (by kernel_rfl) (fun _ _ _ h => h) (.inl ⟨rfl, fun W _ => by go_simp⟩) hS ?_
        go_frame
        refine wpAnyH_done (by kernel_rfl) ?_ _
        clear hS
        go_wp2
        go_roundw
        case rel => exact ⟨i + 1, by omega, by go_num, rd⟩
        case measure => simp [intOf]; omega
      | true =>
        by_cases hcK : cnt < K
        · obtain ⟨kb, hkb⟩ : ∃ kb, ks[cnt]? = some kb := ⟨_, List.getElem?_eq_getElem (by omega)⟩
          have hkt : keepOf (ks.take K) cnt = kb := by
            unfold keepOf
            rw [List.getElem?_take_of_lt hcK, hkb]; rfl
          rw [hkt] at hLi0
          obtain ⟨ka, rfl⟩ : ∃ ka, kq = some ka := by
            obtain ⟨q', c', he, _, _, hno, _⟩ := hk0.out
            simp only [Value.slice.injEq] at he
            obtain ⟨rfl, _, _⟩ := he
            cases kq with
            | none =>
              have h2 := (hno rfl).1
              rw [h2] at hkb
              simp at hkb
            | some ka => exact ⟨ka, rfl⟩
          have hck : Hid (w.cell? (ka.add cnt) = some (.bool kb)) := by
            obtain ⟨q', c', he, _, _, _, hce⟩ := hk0.out
            simp only [Value.slice.injEq] at he
            exact hce ka he.1.symm cnt kb hkb
          have j1 : (cnt : Int) < (K : Int) := by omega
          clear hkb hkt hS0 hH hthere
          cases kb with
          | false =>
            have hLi : Hid ((saysL (crRes d (ks.take K)))[i]? = some H) := by show _ = _; rw [hLi0]; simp
            have hLs := Lib.hid hLs0
            clear hLi0 hLs0
            go_wp2_with (first
              | (go_at_call 26; refine hbs.out.mono ?_; rintro e wa ⟨rfl, hba⟩
                 have ra := Lib.hid (hr.out.stay hba)
                 have rz : Hid (RowV 37 (wa.alloc (.cells (bl z64).toArray 37)) wa.heap.size (bl z64)) := RowV.made wa _
                 have hcH := elem_cells ra.out.held.holds.1 gh.out hLh.out
                 have hcH' := Lib.hid hcH
                 clear hba hcH)
              | (with_reducible refine wpList_load_at rfl 37 (.tmp 85) rfl Try.underlying37 rfl (vs := bl H) (bl_size hH64) rfl hcH'.out ?_)
              | (with_reducible refine wpList_alloc_z rfl 37 rfl alloc37z ?_)
              | ((with_reducible refine wpList_store_at rfl 37 (.tmp 18) (.tmp 86) rfl (o := 0) rfl rfl rz.out (bl_size hH64) (bl_fits hH64 z64_len) (bl_one H) ?_)
                 intro wb hrb hgb
                 rw [bl_splice hH64 z64_len] at hrb
                 have hbb : Below wa.heap.size wa wb := ((Below.refl _ _).alloc (Nat.le_refl _) _).grown hgb (by rw [World.size_alloc]; omega) (fun j e => by have := Option.some.inj e; omega)
                 have rb := Lib.hid (ra.out.stay hbb)
                 have xb := Lib.hid hrb
                 have ck : wb.cell? (ka.add cnt) = some (.bool false) := Lib.Below.cellOf rb.out.mine.below hck.out (Nat.le_refl _)
                 clear hrb hgb hbb))
            refine wp_region_held (S := fun W => HoldsE W (.slice (some ai) (szOf n) ci) ((saysL (crRes d (ks.take K))).map bl) ∧ HoldsE W (.slice (some sa) (szOf n) cs) ((saysL d).map bl) ∧ HoldsE W (.slice (some ah) (szOf n) ch) ((saysL (crRes d [])).map bl) ∧ RowV 37 W wa.heap.size (bl H)) (by kernel_rfl) ?_
            change wpAnyH _ _ _ _ _ _ _ _ (World.drew wb)
            have rd := Lib.hid (rb.out.stay (below_drewN wb 1))
            have hS : HoldsE wb.drew (.slice (some ai) (szOf n) ci) ((saysL (crRes d (ks.take K))).map bl) ∧ HoldsE wb.drew (.slice (some sa) (szOf n) cs) ((saysL d).map bl) ∧ HoldsE wb.drew (.slice (some ah) (szOf n) ch) ((saysL (crRes d [])).map bl) ∧ RowV 37 wb.drew wa.heap.size (bl H) := ⟨rd.out.is.holds.1, rd.out.said.holds.1, rd.out.held.holds.1, xb.out.block rfl⟩
            refine held_take (i := 0) (dst := some 104) rfl rfl (by kernel_rfl) (by kernel_rfl) (by kernel_rfl) (fun _ _ _ h => h) (y_move (.tmp 13) rfl rfl rfl) hS ?_
            go_frame
            refine held_take (i := 1) (dst := some 105) rfl rfl (by kernel_rfl) (by kernel_rfl) (by kernel_rfl) (fun _ _ _ h => h) (y_move (.tmp 15) rfl rfl rfl) hS ?_
            go_frame
            refine held_take (i := 2) (dst := some 106) (v := .pointer (some (ai.add (i * 64)))) rfl rfl (by kernel_rfl) (by kernel_rfl) (by kernel_rfl) (fun _ _ _ h => h) (.inl ⟨rfl, fun W _ => by go_simp⟩) hS ?_
            go_frame
            refine held_take (i := 3) (dst := some 107) (v := agg H) rfl rfl (by kernel_rfl) (by kernel_rfl) (by kernel_rfl) (fun _ _ _ h => h) (y_load_agg 37 (.tmp 106) rfl rfl rfl (fun W hW => load_elem hW.1 gi.out hLi.out)) hS ?_
            go_frame
            refine held_take (i := 4) (dst := some 108) (v := agg H) rfl rfl (by kernel_rfl) (by kernel_rfl) (by kernel_rfl) (fun _ _ _ h => h) (y_load_agg 37 (.tmp 18) rfl rfl rfl (fun W hW => load_blk hW.2.2.2 hH64)) hS ?_
            go_frame
            refine held_take (i := 5) (dst := some 109) (v := .bool (!(H == H))) rfl rfl (by kernel_rfl) (by kernel_rfl) (by kernel_rfl) (fun _ _ _ h => h) (y_neq_blk rfl rfl rfl rfl hH64 hH64) hS ?_
            go_frame
            refine held_take (i := 6) (dst := some 110) (v := .bool false) rfl rfl (by kernel_rfl) (by kernel_rfl) (by kernel_rfl) (fun _ _ _ h => h) (.inl ⟨rfl, fun W _ => by go_simp⟩) hS ?_
            go_frame
            refine held_take (i := 7) (dst := some 111) rfl rfl (by kernel_rfl) (by kernel_rfl) (by kernel_rfl) (fun _ _ _ h => h) (y_move (.tmp 17) rfl rfl rfl) hS ?_
            go_frame
            refine held_take (i := 8) (dst := some 112) (v := .bool false) rfl rfl (by kernel_rfl) (by kernel_rfl) (by kernel_rfl) (fun _ _ _ h => h) (.inl ⟨rfl, fun W _ => by go_simp⟩) hS ?_
            go_frame
            refine held_take (i := 9) (dst := some 113) rfl rfl (by kernel_rfl) (by kernel_rfl) (by kernel_rfl) (fun _ _ _ h => h) (y_move (.tmp 112) rfl rfl rfl) hS ?_
            go_frame
            refine held_take (i := 10) (dst := some 114) (v := undef) rfl rfl (by kernel_rfl) (by kernel_rfl) (by kernel_rfl) (fun _ _ _ h => h) (.inr ⟨rfl, rfl⟩) hS ?_
            go_frame
            refine held_take (i := 11) (dst := some 115) (v := undef) rfl rfl (by kernel_rfl) (by kernel_rfl) (by kernel_rfl) (fun _ _ _ h => h) (.inr ⟨rfl, rfl⟩) hS ?_
            go_frame
            refine held_take (i := 12) (dst := some 116) (v := undef) rfl rfl (by kernel_rfl) (by kernel_rfl) (by kernel_rfl) (fun _ _ _ h => h) (.inr ⟨rfl, rfl⟩) hS ?_
            go_frame
            refine held_take (i := 13) (dst := some 117) (v := undef) rfl rfl (by kernel_rfl) (by kernel_rfl) (by kernel_rfl) (fun _ _ _ h => h) (.inr ⟨rfl, rfl⟩) hS ?_
            go_frame
            refine held_take (i := 14) (dst := some 118) (v := undef) rfl rfl (by kernel_rfl) (by kernel_rfl) (by kernel_rfl) (fun _ _ _ h => h) (.inr ⟨rfl, rfl⟩) hS ?_
            go_frame
            refine held_take (i := 15) (dst := some 119) (v := undef) rfl rfl (by kernel_rfl) (by kernel_rfl) (by kernel_rfl) (fun _ _ _ h => h) (.inr ⟨rfl, rfl⟩) hS ?_
            go_frame
            refine held_take (i := 16) (dst := some 120) (v := undef) rfl rfl (by kernel_rfl) (by kernel_rfl) (by kernel_rfl) (fun _ _ _ h => h) (.inr ⟨rfl, rfl⟩) hS ?_
            go_frame
            refine held_take (i := 17) (dst := some 121) (v := undef) rfl rfl (by kernel_rfl) (by kernel_rfl) (by kernel_rfl) (fun _ _ _ h => h) (.inr ⟨rfl, rfl⟩) hS ?_
            go_frame
            refine held_take (i := 18) (dst := some 122) (v := undef) rfl rfl (by kernel_rfl) (by kernel_rfl) (by kernel_rfl) (fun _ _ _ h => h) (.inr ⟨rfl, rfl⟩) hS ?_
            go_frame
            refine held_take (i := 19) (dst := some 123) (v := .bool false) rfl rfl (by kernel_rfl) (by kernel_rfl) (by kernel_rfl) (fun _ _ _ h => h) (.inl ⟨rfl, fun W _ => by go_simp⟩) hS ?_
            go_frame
            refine held_take (i := 20) (dst := some 124) (v := .bool false) rfl rfl (by kernel_rfl) (by kernel_rfl) (by kernel_rfl) (fun _ _ _ h => h) (.inl ⟨rfl, fun W _ => by go_simp⟩) hS ?_
            go_frame
            refine wpAnyH_done (by kernel_rfl) ?_ _
            clear hS
            go_wp2
            go_roundw
            case rel => exact ⟨i + 1, by omega, by go_num, rd⟩
            case measure => simp [intOf]; omega
          | true =>
            have hLi : Hid ((saysL (crRes d (ks.take K)))[i]? = some S) := by show _ = _; rw [hLi0]; simp
            have hLs := Lib.hid hLs0
            clear hLi0 hLs0
            go_wp2_with (first
              | (go_at_call 26; refine hbs.out.mono ?_; rintro e wa ⟨rfl, hba⟩
                 have ra := Lib.hid (hr.out.stay hba)
                 have rz : Hid (RowV 37 (wa.alloc (.cells (bl z64).toArray 37)) wa.heap.size (bl z64)) := RowV.made wa _
                 have hcH := elem_cells ra.out.held.holds.1 gh.out hLh.out
                 have hcH' := Lib.hid hcH
                 clear hba hcH)
              | (with_reducible refine wpList_load_at rfl 37 (.tmp 85) rfl Try.underlying37 rfl (vs := bl H) (bl_size hH64) rfl hcH'.out ?_)
              | (with_reducible refine wpList_alloc_z rfl 37 rfl alloc37z ?_)
              | ((with_reducible refine wpList_store_at rfl 37 (.tmp 18) (.tmp 86) rfl (o := 0) rfl rfl rz.out (bl_size hH64) (bl_fits hH64 z64_len) (bl_one H) ?_)
                 intro wb hrb hgb
                 rw [bl_splice hH64 z64_len] at hrb
                 have hbb : Below wa.heap.size wa wb := ((Below.refl _ _).alloc (Nat.le_refl _) _).grown hgb (by rw [World.size_alloc]; omega) (fun j e => by have := Option.some.inj e; omega)
                 have rb := Lib.hid (ra.out.stay hbb)
                 have xb := Lib.hid hrb
                 have ck : wb.cell? (ka.add cnt) = some (.bool true) := Lib.Below.cellOf rb.out.mine.below hck.out (Nat.le_refl _)
                 have hcS := elem_cells rb.out.said.holds.1 gs.out hLs.out
                 have hcS' := Lib.hid hcS
                 clear hcS
                 clear hrb hgb hbb)
              | (with_reducible refine wpList_load_at rfl 37 (.tmp 102) rfl Try.underlying37 rfl (vs := bl S) (bl_size hS64) rfl hcS'.out ?_)
              | ((with_reducible refine wpList_store_at rfl 37 (.tmp 18) (.tmp 103) rfl (o := 0) rfl rfl xb.out (bl_size hS64) (bl_fits hS64 hH64) (bl_one S) ?_)
                 intro wc hrc hgc
                 rw [bl_splice hS64 hH64] at hrc
                 have rc := Lib.hid (rb.out.over ra.out xb.out hgc)
                 have xc := Lib.hid hrc
                 clear hrc hgc))
            refine wp_region_held (S := fun W => HoldsE W (.slice (some ai) (szOf n) ci) ((saysL (crRes d (ks.take K))).map bl) ∧ HoldsE W (.slice (some sa) (szOf n) cs) ((saysL d).map bl) ∧ HoldsE W (.slice (some ah) (szOf n) ch) ((saysL (crRes d [])).map bl) ∧ RowV 37 W wa.heap.size (bl S)) (by kernel_rfl) ?_
            change wpAnyH _ _ _ _ _ _ _ _ (World.drew wc)
            have rd := Lib.hid (rc.out.stay (below_drewN wc 1))
            have hS : HoldsE wc.drew (.slice (some ai) (szOf n) ci) ((saysL (crRes d (ks.take K))).map bl) ∧ HoldsE wc.drew (.slice (some sa) (szOf n) cs) ((saysL d).map bl) ∧ HoldsE wc.drew (.slice (some ah) (szOf n) ch) ((saysL (crRes d [])).map bl) ∧ RowV 37 wc.drew wa.heap.size (bl S) := ⟨rd.out.is.holds.1, rd.out.said.holds.1, rd.out.held.holds.1, xc.out.block rfl⟩
            refine held_take (i := 0) (dst := some 104) rfl rfl (by kernel_rfl) (by kernel_rfl) (by kernel_rfl) (fun _ _ _ h => h) (y_move (.tmp 13) rfl rfl rfl) hS ?_
            go_frame
            refine held_take (i := 1) (dst := some 105) rfl rfl (by kernel_rfl) (by kernel_rfl) (by kernel_rfl) (fun _ _ _ h => h) (y_move (.tmp 15) rfl rfl rfl) hS ?_
            go_frame
            refine held_take (i := 2) (dst := some 106) (v := .pointer (some (ai.add (i * 64)))) rfl rfl (by kernel_rfl) (by kernel_rfl) (by kernel_rfl) (fun _ _ _ h => h) (.inl ⟨rfl, fun W _ => by go_simp⟩) hS ?_
            go_frame
            refine held_take (i := 3) (dst := some 107) (v := agg S) rfl rfl (by kernel_rfl) (by kernel_rfl) (by kernel_rfl) (fun _ _ _ h => h) (y_load_agg 37 (.tmp 106) rfl rfl rfl (fun W hW => load_elem hW.1 gi.out hLi.out)) hS ?_
            go_frame
            refine held_take (i := 4) (dst := some 108) (v := agg S) rfl rfl (by kernel_rfl) (by kernel_rfl) (by kernel_rfl) (fun _ _ _ h => h) (y_load_agg 37 (.tmp 18) rfl rfl rfl (fun W hW => load_blk hW.2.2.2 hS64)) hS ?_
            go_frame
            refine held_take (i := 5) (dst := some 109) (v := .bool (!(S == S))) rfl rfl (by kernel_rfl) (by kernel_rfl) (by kernel_rfl) (fun _ _ _ h => h) (y_neq_blk rfl rfl rfl rfl hS64 hS64) hS ?_
            go_frame
            refine held_take (i := 6) (dst := some 110) (v := .bool false) rfl rfl (by kernel_rfl) (by kernel_rfl) (by kernel_rfl) (fun _ _ _ h => h) (.inl ⟨rfl, fun W _ => by go_simp⟩) hS ?_
            go_frame
            refine held_take (i := 7) (dst := some 111) rfl rfl (by kernel_rfl) (by kernel_rfl) (by kernel_rfl) (fun _ _ _ h => h) (y_move (.tmp 17) rfl rfl rfl) hS ?_
            go_frame
            refine held_take (i := 8) (dst := some 112) (v := .bool false) rfl rfl (by kernel_rfl) (by kernel_rfl) (by kernel_rfl) (fun _ _ _ h => h) (.inl ⟨rfl, fun W _ => by go_simp⟩) hS ?_
            go_frame
            refine held_take (i := 9) (dst := some 113) rfl rfl (by kernel_rfl) (by kernel_rfl) (by kernel_rfl) (fun _ _ _ h => h) (y_move (.tmp 112) rfl rfl rfl) hS ?_
            go_frame
            refine held_take (i := 10) (dst := some 114) (v := undef) rfl rfl (by kernel_rfl) (by kernel_rfl) (by kernel_rfl) (fun _ _ _ h => h) (.inr ⟨rfl, rfl⟩) hS ?_
            go_frame
            refine held_take (i := 11) (dst := some 115) (v := undef) rfl rfl (by kernel_rfl) (by kernel_rfl) (by kernel_rfl) (fun _ _ _ h => h) (.inr ⟨rfl, rfl⟩) hS ?_
            go_frame
            refine held_take (i := 12) (dst := some 116) (v := undef) rfl rfl (by kernel_rfl) (by kernel_rfl) (by kernel_rfl) (fun _ _ _ h => h) (.inr ⟨rfl, rfl⟩) hS ?_
            go_frame
            refine held_take (i := 13) (dst := some 117) (v := undef) rfl rfl (by kernel_rfl) (by kernel_rfl) (by kernel_rfl) (fun _ _ _ h => h) (.inr ⟨rfl, rfl⟩) hS ?_
            go_frame
            refine held_take (i := 14) (dst := some 118) (v := undef) rfl rfl (by kernel_rfl) (by kernel_rfl) (by kernel_rfl) (fun _ _ _ h => h) (.inr ⟨rfl, rfl⟩) hS ?_
            go_frame
            refine held_take (i := 15) (dst := some 119) (v := undef) rfl rfl (by kernel_rfl) (by kernel_rfl) (by kernel_rfl) (fun _ _ _ h => h) (.inr ⟨rfl, rfl⟩) hS ?_
            go_frame
            refine held_take (i := 16) (dst := some 120) (v := undef) rfl rfl (by kernel_rfl) (by kernel_rfl) (by kernel_rfl) (fun _ _ _ h => h) (.inr ⟨rfl, rfl⟩) hS ?_
            go_frame
            refine held_take (i := 17) (dst := some 121) (v := undef) rfl rfl (by kernel_rfl) (by kernel_rfl) (by kernel_rfl) (fun _ _ _ h => h) (.inr ⟨rfl, rfl⟩) hS ?_
            go_frame
            refine held_take (i := 18) (dst := some 122) (v := undef) rfl rfl (by kernel_rfl) (by kernel_rfl) (by kernel_rfl) (fun _ _ _ h => h) (.inr ⟨rfl, rfl⟩) hS ?_
            go_frame
            refine held_take (i := 19) (dst := some 123) (v := .bool false) rfl rfl (by kernel_rfl) (by kernel_rfl) (by kernel_rfl) (fun _ _ _ h => h) (.inl ⟨rfl, fun W _ => by go_simp⟩) hS ?_
            go_frame
            refine held_take (i := 20) (dst := some 124) (v := .bool false) rfl rfl (by kernel_rfl) (by kernel_rfl) (by kernel_rfl) (fun _ _ _ h => h) (.inl ⟨rfl, fun W _ => by go_simp⟩) hS ?_
            go_frame
            refine wpAnyH_done (by kernel_rfl) ?_ _
            clear hS
            go_wp2
            go_roundw
            case rel => exact ⟨i + 1, by omega, by go_num, rd⟩
            case measure => simp [intOf]; omega
        · have hLi : Hid ((saysL (crRes d (ks.take K)))[i]? = some H) := by
            show _ = _
            rw [hLi0]
            have : keepOf (ks.take K) cnt = false := by
              unfold keepOf
              rw [List.getElem?_eq_none (by omega)]; rfl
            rw [this]
            simp
          have hLs := Lib.hid hLs0
          have j1 : (K : Int) ≤ (cnt : Int) := by omega
          clear hLi0 hLs0 hS0 hH hthere
          go_wp2_with (first
            | (go_at_call 26; refine hbs.out.mono ?_; rintro e wa ⟨rfl, hba⟩
               have ra := Lib.hid (hr.out.stay hba)
               have rz : Hid (RowV 37 (wa.alloc (.cells (bl z64).toArray 37)) wa.heap.size (bl z64)) := RowV.made wa _
               have hcH := elem_cells ra.out.held.holds.1 gh.out hLh.out
               have hcH' := Lib.hid hcH
               clear hba hcH)
            | (with_reducible refine wpList_load_at rfl 37 (.tmp 85) rfl Try.underlying37 rfl (vs := bl H) (bl_size hH64) rfl hcH'.out ?_)
            | (with_reducible refine wpList_alloc_z rfl 37 rfl alloc37z ?_)
            | ((with_reducible refine wpList_store_at rfl 37 (.tmp 18) (.tmp 86) rfl (o := 0) rfl rfl rz.out (bl_size hH64) (bl_fits hH64 z64_len) (bl_one H) ?_)
               intro wb hrb hgb
               rw [bl_splice hH64 z64_len] at hrb
               have hbb : Below wa.heap.size wa wb := ((Below.refl _ _).alloc (Nat.le_refl _) _).grown hgb (by rw [World.size_alloc]; omega) (fun j e => by have := Option.some.inj e; omega)
               have rb := Lib.hid (ra.out.stay hbb)
               have xb := Lib.hid hrb
               clear hrb hgb hbb))
          refine wp_region_held (S := fun W => HoldsE W (.slice (some ai) (szOf n) ci) ((saysL (crRes d (ks.take K))).map bl) ∧ HoldsE W (.slice (some sa) (szOf n) cs) ((saysL d).map bl) ∧ HoldsE W (.slice (some ah) (szOf n) ch) ((saysL (crRes d [])).map bl) ∧ RowV 37 W wa.heap.size (bl H)) (by kernel_rfl) ?_
          change wpAnyH _ _ _ _ _ _ _ _ (World.drew wb)
          have rd := Lib.hid (rb.out.stay (below_drewN wb 1))
          have hS : HoldsE wb.drew (.slice (some ai) (szOf n) ci) ((saysL (crRes d (ks.take K))).map bl) ∧ HoldsE wb.drew (.slice (some sa) (szOf n) cs) ((saysL d).map bl) ∧ HoldsE wb.drew (.slice (some ah) (szOf n) ch) ((saysL (crRes d [])).map bl) ∧ RowV 37 wb.drew wa.heap.size (bl H) := ⟨rd.out.is.holds.1, rd.out.said.holds.1, rd.out.held.holds.1, xb.out.block rfl⟩
          refine held_take (i := 0) (dst := some 104) rfl rfl (by kernel_rfl) (by kernel_rfl) (by kernel_rfl) (fun _ _ _ h => h) (y_move (.tmp 13) rfl rfl rfl) hS ?_
          go_frame
          refine held_take (i := 1) (dst := some 105) rfl rfl (by kernel_rfl) (by kernel_rfl) (by kernel_rfl) (fun _ _ _ h => h) (y_move (.tmp 15) rfl rfl rfl) hS ?_
          go_frame
          refine held_take (i := 2) (dst := some 106) (v := .pointer (some (ai.add (i * 64)))) rfl rfl (by kernel_rfl) (by kernel_rfl) (by kernel_rfl) (fun _ _ _ h => h) (.inl ⟨rfl, fun W _ => by go_simp⟩) hS ?_
          go_frame
          refine held_take (i := 3) (dst := some 107) (v := agg H) rfl rfl (by kernel_rfl) (by kernel_rfl) (by kernel_rfl) (fun _ _ _ h => h) (y_load_agg 37 (.tmp 106) rfl rfl rfl (fun W hW => load_elem hW.1 gi.out hLi.out)) hS ?_
          go_frame
          refine held_take (i := 4) (dst := some 108) (v := agg H) rfl rfl (by kernel_rfl) (by kernel_rfl) (by kernel_rfl) (fun _ _ _ h => h) (y_load_agg 37 (.tmp 18) rfl rfl rfl (fun W hW => load_blk hW.2.2.2 hH64)) hS ?_
          go_frame
          refine held_take (i := 5) (dst := some 109) (v := .bool (!(H == H))) rfl rfl (by kernel_rfl) (by kernel_rfl) (by kernel_rfl) (fun _ _ _ h => h) (y_neq_blk rfl rfl rfl rfl hH64 hH64) hS ?_
          go_frame
          refine held_take (i := 6) (dst := some 110) (v := .bool false) rfl rfl (by kernel_rfl) (by kernel_rfl) (by kernel_rfl) (fun _ _ _ h => h) (.inl ⟨rfl, fun W _ => by go_simp⟩) hS ?_
          go_frame
          refine held_take (i := 7) (dst := some 111) rfl rfl (by kernel_rfl) (by kernel_rfl) (by kernel_rfl) (fun _ _ _ h => h) (y_move (.tmp 17) rfl rfl rfl) hS ?_
          go_frame
          refine held_take (i := 8) (dst := some 112) (v := .bool false) rfl rfl (by kernel_rfl) (by kernel_rfl) (by kernel_rfl) (fun _ _ _ h => h) (.inl ⟨rfl, fun W _ => by go_simp⟩) hS ?_
          go_frame
          refine held_take (i := 9) (dst := some 113) rfl rfl (by kernel_rfl) (by kernel_rfl) (by kernel_rfl) (fun _ _ _ h => h) (y_move (.tmp 112) rfl rfl rfl) hS ?_
          go_frame
          refine held_take (i := 10) (dst := some 114) (v := undef) rfl rfl (by kernel_rfl) (by kernel_rfl) (by kernel_rfl) (fun _ _ _ h => h) (.inr ⟨rfl, rfl⟩) hS ?_
          go_frame
          refine held_take (i := 11) (dst := some 115) (v := undef) rfl rfl (by kernel_rfl) (by kernel_rfl) (by kernel_rfl) (fun _ _ _ h => h) (.inr ⟨rfl, rfl⟩) hS ?_
          go_frame
          refine held_take (i := 12) (dst := some 116) (v := undef) rfl rfl (by kernel_rfl) (by kernel_rfl) (by kernel_rfl) (fun _ _ _ h => h) (.inr ⟨rfl, rfl⟩) hS ?_
          go_frame
          refine held_take (i := 13) (dst := some 117) (v := undef) rfl rfl (by kernel_rfl) (by kernel_rfl) (by kernel_rfl) (fun _ _ _ h => h) (.inr ⟨rfl, rfl⟩) hS ?_
          go_frame
          refine held_take (i := 14) (dst := some 118) (v := undef) rfl rfl (by kernel_rfl) (by kernel_rfl) (by kernel_rfl) (fun _ _ _ h => h) (.inr ⟨rfl, rfl⟩) hS ?_
          go_frame
          refine held_take (i := 15) (dst := some 119) (v := undef) rfl rfl (by kernel_rfl) (by kernel_rfl) (by kernel_rfl) (fun _ _ _ h => h) (.inr ⟨rfl, rfl⟩) hS ?_
          go_frame
          refine held_take (i := 16) (dst := some 120) (v := undef) rfl rfl (by kernel_rfl) (by kernel_rfl) (by kernel_rfl) (fun _ _ _ h => h) (.inr ⟨rfl, rfl⟩) hS ?_
          go_frame
          refine held_take (i := 17) (dst := some 121) (v := undef) rfl rfl (by kernel_rfl) (by kernel_rfl) (by kernel_rfl) (fun _ _ _ h => h) (.inr ⟨rfl, rfl⟩) hS ?_
          go_frame
          refine held_take (i := 18) (dst := some 122) (v := undef) rfl rfl (by kernel_rfl) (by kernel_rfl) (by kernel_rfl) (fun _ _ _ h => h) (.inr ⟨rfl, rfl⟩) hS ?_
          go_frame
          refine held_take (i := 19) (dst := some 123) (v := .bool false) rfl rfl (by kernel_rfl) (by kernel_rfl) (by kernel_rfl) (fun _ _ _ h => h) (.inl ⟨rfl, fun W _ => by go_simp⟩) hS ?_
          go_frame
          refine held_take (i := 20) (dst := some 124) (v := .bool false) rfl rfl (by kernel_rfl) (by kernel_rfl) (by kernel_rfl) (fun _ _ _ h => h) (.inl ⟨rfl, fun W _ => by go_simp⟩) hS ?_
          go_frame
          refine wpAnyH_done (by kernel_rfl) ?_ _
          clear hS
          go_wp2
          go_roundw
          case rel => exact ⟨i + 1, by omega, by go_num, rd⟩
          case measure => simp [intOf]; omega
    · obtain rfl : szOf n = i := by omega
      go_wp2_with fail
      refine (pending_any p (crRes d (ks.take K)) wr hr.out.mine.disk).mono ?_
      rintro e w10 ⟨vz, rfl, hA, hown, hb⟩
      rw [pend_none (d := crRes d (ks.take K)) rfl] at hown
      obtain ⟨qz, cz, rfl⟩ := owns_shape hown
      have m10 := Lib.hid (hr.out.mine.stay hb)
      clear hA hown hb
      go_wp2_with fail
      go_ret
      exact ⟨rfl, m10.out.below⟩

end Go.Proofs.Ytffchpgjaoakpaa
