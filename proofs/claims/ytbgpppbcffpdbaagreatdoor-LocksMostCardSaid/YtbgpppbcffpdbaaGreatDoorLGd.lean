/- Locks: where a queue stands, and queues changed in place. -/
import Derived.Test.YtbgpppbcffpdbaaGreatDoorLGc
import Derived.Test.YtbgpppbcffpdbaaGreatDoorLGb

/-! place and queueOf of locks: where the queue of something stands. -/
namespace Go.Proofs.YtbgpppbcffpdbaaGreatDoor
open Go.RowKit

theorem cmpR_lt {a b : ResD} : cmpR a b < 0 ↔ a.t < b.t ∨ (a.t = b.t ∧ inT a < inT b) := by
  unfold cmpR orI
  rcases cmpI_cases a.t b.t with ⟨h, e⟩ | ⟨h, e⟩ | ⟨h, e⟩ <;> rcases cmpI_cases (inT a) (inT b) with ⟨h', e'⟩ | ⟨h', e'⟩ | ⟨h', e'⟩ <;> rw [e, e'] <;> simp <;> omega
theorem cmpR_or (a b : ResD) : cmpR a b < 0 ∨ cmpR a b = 1 ∨ cmpR a b = 0 := by
  unfold cmpR orI
  rcases cmpI_cases a.t b.t with ⟨h, e⟩ | ⟨h, e⟩ | ⟨h, e⟩ <;> rcases cmpI_cases (inT a) (inT b) with ⟨h', e'⟩ | ⟨h', e'⟩ | ⟨h', e'⟩ <;> rw [e, e'] <;> simp
theorem cmpR_tr {a b c : ResD} (h1 : cmpR a b < 0) (h2 : cmpR b c < 0) : cmpR a c < 0 := by
  rw [cmpR_lt] at *
  omega
def SortQ (L : List QueD) : Prop := L.Pairwise (fun a b => cmpR a.res b.res < 0)
theorem ChkOk.sort {L : List QueD} (h : ChkOk L) : SortQ L := by
  have key : ∀ (d i : Nat) a b, L[i]? = some a → L[i + d + 1]? = some b → cmpR a.res b.res < 0 := by
    intro d
    induction d with
    | zero => intro i a b ha hb; exact h.ord i a b ha hb
    | succ d ih =>
      intro i a b ha hb
      have hl := (List.getElem?_eq_some_iff.1 hb).1
      have hm : L[i + d + 1]? = some (L[i + d + 1]'(by omega)) := List.getElem?_eq_getElem (by omega)
      exact cmpR_tr (ih i a _ ha hm) (h.ord (i + d + 1) _ b hm hb)
  unfold SortQ
  rw [List.pairwise_iff_getElem]
  intro i j hi hj hij
  have e : i + (j - i - 1) + 1 = j := by omega
  exact key (j - i - 1) i _ _ (List.getElem?_eq_getElem hi) (by rw [e]; exact List.getElem?_eq_getElem hj)
theorem SortQ.lt {L : List QueD} (h : SortQ L) {i j : Nat} {a b : QueD} (hij : i < j) (ha : L[i]? = some a) (hb : L[j]? = some b) : cmpR a.res b.res < 0 := by
  obtain ⟨h1, rfl⟩ := List.getElem?_eq_some_iff.1 ha
  obtain ⟨h2, rfl⟩ := List.getElem?_eq_some_iff.1 hb
  exact List.pairwise_iff_getElem.1 h i j h1 h2 hij
def posQ (L : List QueD) (r : ResD) : Nat := (L.takeWhile (fun d => decide (cmpR d.res r < 0))).length
theorem posQ_le (L : List QueD) (r : ResD) : posQ L r ≤ L.length := by unfold posQ; exact (List.takeWhile_sublist _).length_le
theorem posQ_of : ∀ {L : List QueD} {r : ResD} {i : Nat}, i ≤ L.length → (∀ k d, k < i → L[k]? = some d → cmpR d.res r < 0) → (∀ d, L[i]? = some d → ¬ cmpR d.res r < 0) → posQ L r = i
  | [], x, i, hi, _, _ => by simp at hi; subst hi; rfl
  | a :: L, x, 0, _, _, h2 => by
    have := h2 a rfl
    simp [posQ, this]
  | a :: L, x, i + 1, hi, h1, h2 => by
    have ha := h1 0 a (by omega) rfl
    have ih := posQ_of (L := L) (r := x) (i := i) (by simpa using hi) (fun k h hk hg => h1 (k + 1) h (by omega) (by simpa using hg)) (fun h hg => h2 h (by simpa using hg))
    unfold posQ at ih ⊢
    simp [ha, ih]

set_option maxRecDepth 100000 in
theorem placeFn_any (t : Int) (k : Bool) (id : Int) (hq : Option Addr) (hn hc : Nat) (wq : Option Addr) (wn wc : Nat) (rt : Int) (rk : Bool) (ri : Int) (w : World) (h0 : 0 ≤ id) (h1 : id < 65536) (g0 : 0 ≤ ri) (g1 : ri < 65536) :
    Calls Tryz.prog 137 #[.agg #[.int .i64 t, .bool k, .int .u16 id, .slice hq hn hc, .slice wq wn wc], .agg #[.int .i64 rt, .bool rk, .int .u16 ri]] w (fun e w' => e = .returned (.int .i64 (cmpR ⟨t, k, id⟩ ⟨rt, rk, ri⟩)) ∧ Below w.heap.size w w') := by
  obtain ⟨W, hW⟩ : ∃ W, (w.alloc (.cells #[.int .i64 t, .bool k, .int .u16 id, .slice hq hn hc, .slice wq wn wc] 43)).alloc (.cells #[.int .i64 rt, .bool rk, .int .u16 ri] 30) = W := ⟨_, rfl⟩
  have hbx := Lib.hid (two_boxes (xs := [.int .i64 t, .bool k, .int .u16 id, .slice hq hn hc, .slice wq wn wc]) (ys := [.int .i64 rt, .bool rk, .int .u16 ri]) hW)
  have hc' := Lib.hid (compare_l t k id rt rk ri W h0 h1 g0 g1)
  have c0 := hbx.out.2.1.cell 0 rfl
  have c1 := hbx.out.2.1.cell 1 rfl
  have c2 := hbx.out.2.1.cell 2 rfl
  have d0 := hbx.out.2.2.1.cell 0 rfl
  have d1 := hbx.out.2.2.1.cell 1 rfl
  have d2 := hbx.out.2.2.1.cell 2 rfl
  obtain ⟨x, hx⟩ : ∃ x, cmpR ⟨t, k, id⟩ ⟨rt, rk, ri⟩ = x := ⟨_, rfl⟩
  rw [hx] at hc' ⊢
  clear hx
  go_enter Tryz.func137, Tryz.ntmps137
  go_wp2_with fail
  clear hW c0 c1 c2 d0 d1 d2
  refine hc'.out.mono ?_
  rintro e w1 ⟨rfl, hb1⟩
  have hb2 := Lib.hid (below_step hb1 hbx.out.1)
  clear hb1
  go_wp2
  go_ret
  exact ⟨rfl, hb2.out⟩

structure BsQ (w wr : World) (L : List QueD) (r : ResD) (n i j : Nat) : Prop where
  below : Below w.heap.size w wr
  le : i ≤ j
  top : j ≤ n
  lo : ∀ (k : Nat) d, k < i → L[k]? = some d → cmpR d.res r < 0
  hi : ∀ (k : Nat) d, j ≤ k → L[k]? = some d → ¬ cmpR d.res r < 0

set_option maxRecDepth 100000 in
set_option maxHeartbeats 4000000 in
theorem bsQ_any (q : Option Addr) (n c : Nat) (V : List QV) (L : List QueD) (rt : Int) (rk : Bool) (ri : Int) (w : World) (h : LkOn w q n c V L) (hso : SortQ L) (hsm : n ≤ 1000000) (g0 : 0 ≤ ri) (g1 : ri < 65536) :
    Calls Tryz.prog 136 #[.slice q n c, .agg #[.int .i64 rt, .bool rk, .int .u16 ri], .func (.func 137) #[] #[]] w (fun e w' => ∃ b, e = .returned (.tuple #[.int .i64 (posQ L ⟨rt, rk, ri⟩ : Nat), .bool b]) ∧ Below w.heap.size w w') := by
  obtain ⟨W, hW⟩ : ∃ W, w.alloc (.cells #[.int .i64 rt, .bool rk, .int .u16 ri] 30) = W := ⟨_, rfl⟩
  have hbx := Lib.hid (one_box (xs := [.int .i64 rt, .bool rk, .int .u16 ri]) hW)
  have hh := Lib.hid (h.below hbx.out.1 (Nat.le_refl _))
  have hso' := Lib.hid hso
  have hl := Lib.hid h.len
  have hg0 := Lib.hid g0
  have hg1 := Lib.hid g1
  clear h hso g0 g1
  go_enter Tryz.func136, Tryz.ntmps136
  go_wp2
  clear hW
  go_loopw [9, 10] (fun v9 v10 wr => ∃ i j : Nat, v9 = .int .i64 i ∧ v10 = .int .i64 j ∧ Hid (BsQ W wr L ⟨rt, rk, ri⟩ n i j)) (fun v9 v10 _ => (intOf v10).toNat - (intOf v9).toNat)
  case atStart => exact ⟨0, n, rfl, rfl, Below.refl _ _, Nat.zero_le _, Nat.le_refl _, (fun k h hk => by omega), fun k h hk hg => by have := (List.getElem?_eq_some_iff.1 hg).1; have := hl.out; omega⟩
  case round =>
    obtain ⟨i, j, rfl, rfl, hr⟩ := hrel
    have hij := hr.out.le
    have hjn := hr.out.top
    have r0 := (hbx.out.2.1.below hr.out.below (Nat.le_refl _)).cell 0 rfl
    have r1 := (hbx.out.2.1.below hr.out.below (Nat.le_refl _)).cell 1 rfl
    have r2 := (hbx.out.2.1.below hr.out.below (Nat.le_refl _)).cell 2 rfl
    by_cases hlt : i < j
    · have i0 : (0 : Int) ≤ (i : Int) + j := by omega
      have i1 : (i : Int) + j < 9223372036854775808 := by omega
      obtain ⟨H, hH⟩ : ∃ H : Nat, ((i : Int) + j) / 2 = H := ⟨(i + j) / 2, by omega⟩
      have hH1 : i ≤ H := by omega
      have hH2 : H < j := by omega
      have hH3 : (H : Int) < n := by omega
      have hH0 : (0 : Int) ≤ H := by omega
      obtain ⟨A, ⟨⟨at_, ak, ai⟩, hq, hn', hc, wq, wn, wc⟩, ⟨res, hs, ws⟩, hqA, hV, hx, hon, hcA⟩ := (hh.out.below hr.out.below (Nat.le_refl _)).at (show H < n by omega)
      have hres : res = ⟨at_, ak, ai⟩ := hon.res.symm
      subst hres
      subst hqA
      have p0 : wr.cell? (A.add (H * 5)) = some (.int .i64 at_) := by have h := hcA 0 _ rfl; rwa [add0] at h
      have p1 : wr.cell? ⟨(A.add (H * 5)).block, (A.add (H * 5)).off + 1, none⟩ = some (.bool ak) := hcA 1 _ rfl
      have p2 : wr.cell? ⟨(A.add (H * 5)).block, (A.add (H * 5)).off + 2, none⟩ = some (.int .u16 ai) := hcA 2 _ rfl
      have p3 : wr.cell? ⟨(A.add (H * 5)).block, (A.add (H * 5)).off + 3, none⟩ = some (.slice hq hn' hc) := hcA 3 _ rfl
      have p4 : wr.cell? ⟨(A.add (H * 5)).block, (A.add (H * 5)).off + 4, none⟩ = some (.slice wq wn wc) := hcA 4 _ rfl
      have hx' := Lib.hid hx
      have hpl := Lib.hid (fun u => placeFn_any at_ ak ai hq hn' hc wq wn wc rt rk ri u hon.ok.1 hon.ok.2 hg0.out hg1.out)
      obtain ⟨x, hxx⟩ : ∃ x, cmpR ⟨at_, ak, ai⟩ ⟨rt, rk, ri⟩ = x := ⟨_, rfl⟩
      rw [hxx] at hpl
      have hxx' := Lib.hid hxx
      clear hx hcA hV hon hxx
      by_cases hb : x < 0
      · go_wp2
        go_region_held3 (fun u => u.cell? ⟨w.heap.size, 0, none⟩ = some (.int .i64 rt) ∧ u.cell? ⟨w.heap.size, 1, none⟩ = some (.bool rk) ∧ u.cell? ⟨w.heap.size, 2, none⟩ = some (.int .u16 ri) ∧ u.cell? (A.add (H * 5)) = some (.int .i64 at_) ∧ u.cell? ⟨(A.add (H * 5)).block, (A.add (H * 5)).off + 1, none⟩ = some (.bool ak) ∧ u.cell? ⟨(A.add (H * 5)).block, (A.add (H * 5)).off + 2, none⟩ = some (.int .u16 ai) ∧ u.cell? ⟨(A.add (H * 5)).block, (A.add (H * 5)).off + 3, none⟩ = some (.slice hq hn' hc) ∧ u.cell? ⟨(A.add (H * 5)).block, (A.add (H * 5)).off + 4, none⟩ = some (.slice wq wn wc) ∧ Below wr.heap.size wr u)
          (first | exact ⟨r0, r1, r2, p0, p1, p2, p3, p4, below_drew _⟩ | (go_split_ands; exact ⟨by assumption, by assumption, by assumption, by assumption, by assumption, by assumption, by assumption, by assumption, by assumption⟩) | exact hkeep2.out)
          (first
            | (go_at_call 137; refine (hpl.out _).mono ?_; rintro e6 u2 ⟨rfl, hbu⟩; have hkeep2 := Lib.hid (keep9 hbu (by assumption)); clear hbu))
        have hS9 : Hid (Below W.heap.size W u2) := below_step (by go_split_ands; assumption) hr.out.below
        clear r0 r1 r2 p0 p1 p2 p3 p4
        go_wp2
        go_roundw
        case rel =>
          refine ⟨H + 1, j, by go_num, rfl, hS9.out, by omega, hjn, (fun k d hk hg => ?_), hr.out.hi⟩
          have hHx : cmpR ⟨at_, ak, ai⟩ ⟨rt, rk, ri⟩ < 0 := by rw [hxx'.out]; exact hb
          rcases Nat.lt_or_ge k H with h1 | h1
          · exact cmpR_tr (hso'.out.lt h1 hg hx'.out) hHx
          · obtain rfl : k = H := by omega
            rw [hx'.out] at hg; cases hg; exact hHx
        case measure => simp [intOf]; omega
      · have hx01 : x = 1 ∨ x = 0 := by
          have h := cmpR_or ⟨at_, ak, ai⟩ ⟨rt, rk, ri⟩
          rw [hxx'.out] at h
          rcases h with h | h
          · exact absurd h hb
          · exact h
        have hb' := Lib.hid hb
        clear hb
        rcases hx01 with rfl | rfl
        all_goals
          go_wp2
          go_region_held3 (fun u => u.cell? ⟨w.heap.size, 0, none⟩ = some (.int .i64 rt) ∧ u.cell? ⟨w.heap.size, 1, none⟩ = some (.bool rk) ∧ u.cell? ⟨w.heap.size, 2, none⟩ = some (.int .u16 ri) ∧ u.cell? (A.add (H * 5)) = some (.int .i64 at_) ∧ u.cell? ⟨(A.add (H * 5)).block, (A.add (H * 5)).off + 1, none⟩ = some (.bool ak) ∧ u.cell? ⟨(A.add (H * 5)).block, (A.add (H * 5)).off + 2, none⟩ = some (.int .u16 ai) ∧ u.cell? ⟨(A.add (H * 5)).block, (A.add (H * 5)).off + 3, none⟩ = some (.slice hq hn' hc) ∧ u.cell? ⟨(A.add (H * 5)).block, (A.add (H * 5)).off + 4, none⟩ = some (.slice wq wn wc) ∧ Below wr.heap.size wr u)
          (first | exact ⟨r0, r1, r2, p0, p1, p2, p3, p4, below_drew _⟩ | (go_split_ands; exact ⟨by assumption, by assumption, by assumption, by assumption, by assumption, by assumption, by assumption, by assumption, by assumption⟩) | exact hkeep2.out)
          (first
            | (go_at_call 137; refine (hpl.out _).mono ?_; rintro e6 u2 ⟨rfl, hbu⟩; have hkeep2 := Lib.hid (keep9 hbu (by assumption)); clear hbu))
          have hS9 : Hid (Below W.heap.size W u2) := below_step (by go_split_ands; assumption) hr.out.below
          clear r0 r1 r2 p0 p1 p2 p3 p4
          go_wp2
          go_roundw
          case rel =>
            refine ⟨i, H, rfl, rfl, hS9.out, hH1, by omega, hr.out.lo, (fun k d hk hg => ?_)⟩
            have hHx : ¬ cmpR ⟨at_, ak, ai⟩ ⟨rt, rk, ri⟩ < 0 := by rw [hxx'.out]; decide
            rcases Nat.lt_or_ge H k with h1 | h1
            · exact fun hcon => hHx (cmpR_tr (hso'.out.lt h1 hx'.out hg) hcon)
            · obtain rfl : k = H := by omega
              rw [hx'.out] at hg; cases hg; exact hHx
          case measure => simp [intOf]; omega
    · obtain rfl : i = j := by omega
      have hp : Hid (posQ L ⟨rt, rk, ri⟩ = i) := posQ_of (by have := hl.out; omega) hr.out.lo (fun h hg => hr.out.hi i h (Nat.le_refl _) hg)
      by_cases hin : i < n
      · have hH3 : (i : Int) < n := by omega
        have hH0 : (0 : Int) ≤ i := by omega
        obtain ⟨A, ⟨⟨at_, ak, ai⟩, hq, hn', hc, wq, wn, wc⟩, ⟨res, hs, ws⟩, hqA, hV, hx, hon, hcA⟩ := (hh.out.below hr.out.below (Nat.le_refl _)).at hin
        have hres : res = ⟨at_, ak, ai⟩ := hon.res.symm
        subst hres
        subst hqA
        have p0 : wr.cell? (A.add (i * 5)) = some (.int .i64 at_) := by have h := hcA 0 _ rfl; rwa [add0] at h
        have p1 : wr.cell? ⟨(A.add (i * 5)).block, (A.add (i * 5)).off + 1, none⟩ = some (.bool ak) := hcA 1 _ rfl
        have p2 : wr.cell? ⟨(A.add (i * 5)).block, (A.add (i * 5)).off + 2, none⟩ = some (.int .u16 ai) := hcA 2 _ rfl
        have p3 : wr.cell? ⟨(A.add (i * 5)).block, (A.add (i * 5)).off + 3, none⟩ = some (.slice hq hn' hc) := hcA 3 _ rfl
        have p4 : wr.cell? ⟨(A.add (i * 5)).block, (A.add (i * 5)).off + 4, none⟩ = some (.slice wq wn wc) := hcA 4 _ rfl
        have hpl := Lib.hid (fun u => placeFn_any at_ ak ai hq hn' hc wq wn wc rt rk ri u hon.ok.1 hon.ok.2 hg0.out hg1.out)
        obtain ⟨x, hxx⟩ : ∃ x, cmpR ⟨at_, ak, ai⟩ ⟨rt, rk, ri⟩ = x := ⟨_, rfl⟩
        rw [hxx] at hpl
        clear hx hcA hV hon hxx
        go_wp2
        go_region_held3 (fun u => u.cell? ⟨w.heap.size, 0, none⟩ = some (.int .i64 rt) ∧ u.cell? ⟨w.heap.size, 1, none⟩ = some (.bool rk) ∧ u.cell? ⟨w.heap.size, 2, none⟩ = some (.int .u16 ri) ∧ u.cell? (A.add (i * 5)) = some (.int .i64 at_) ∧ u.cell? ⟨(A.add (i * 5)).block, (A.add (i * 5)).off + 1, none⟩ = some (.bool ak) ∧ u.cell? ⟨(A.add (i * 5)).block, (A.add (i * 5)).off + 2, none⟩ = some (.int .u16 ai) ∧ u.cell? ⟨(A.add (i * 5)).block, (A.add (i * 5)).off + 3, none⟩ = some (.slice hq hn' hc) ∧ u.cell? ⟨(A.add (i * 5)).block, (A.add (i * 5)).off + 4, none⟩ = some (.slice wq wn wc) ∧ Below wr.heap.size wr u)
          (first | exact ⟨r0, r1, r2, p0, p1, p2, p3, p4, below_drew _⟩ | (go_split_ands; exact ⟨by assumption, by assumption, by assumption, by assumption, by assumption, by assumption, by assumption, by assumption, by assumption⟩) | exact hkeep2.out)
          (first
            | (go_at_call 137; refine (hpl.out _).mono ?_; rintro e6 u2 ⟨rfl, hbu⟩; have hkeep2 := Lib.hid (keep9 hbu (by assumption)); clear hbu))
        have hS9 : Hid (Below W.heap.size W u2) := below_step (by go_split_ands; assumption) hr.out.below
        clear r0 r1 r2 p0 p1 p2 p3 p4
        go_wp2
        go_ret2
        rw [hp.out]
        exact ⟨_, rfl, below_step hS9.out hbx.out.1⟩
      · obtain rfl : i = n := by omega
        go_wp2
        go_quiet (fail)
        clear r0 r1 r2
        go_wp2
        go_ret2
        rw [hp.out]
        exact ⟨_, rfl, below_step (hr.out.below.trans ((below_drewN _ _).mono hr.out.below.size)) hbx.out.1⟩

theorem eqRes (w : World) (a : Int) (b : Bool) (c : Int) (d : Int) (e : Bool) (f : Int) : (binOp .eql 30 (.agg #[.int .i64 a, .bool b, .int .u16 c]) (.agg #[.int .i64 d, .bool e, .int .u16 f])).run Tryz.prog w = .ok (.bool (decide ((⟨a, b, c⟩ : ResD) = ⟨d, e, f⟩))) w := by
  have hS : Tryz.prog.underlying 30 = some (.struct (Tryz.prog.fieldsOf 30)) := by kernel_rfl
  have hp : Tryz.prog.stoodInHeld 30 = false := by kernel_rfl
  have u3 := Tryz.underlying3
  have u4 := Tryz.underlying4
  have u5 := Tryz.underlying28
  have a3 := Tryz.isAgg3
  have a4 := Tryz.isAgg4
  have a5 := Tryz.isAgg28
  have z3 := Tryz.sizeOf3
  have z4 := Tryz.sizeOf4
  have z5 := Tryz.sizeOf28
  rw [run_eql_struct, show (10000 : Nat) = 9999 + 1 from rfl, run_equalIn_agg w 9999 30 _ _ hS hp]
  simp only [Program.fieldsOf, Tryz.underlying30]
  clear hS hp
  go_simp
  by_cases h1 : a = d <;> by_cases h2 : b = e <;> by_cases h3 : c = f <;> simp [h1, h2, h3]
end Go.Proofs.YtbgpppbcffpdbaaGreatDoor

/-! place and queueOf of locks. -/
namespace Go.Proofs.YtbgpppbcffpdbaaGreatDoor
open Go.RowKit

def thereQ (L : List QueD) (r : ResD) : Bool := match L[posQ L r]? with
  | some d => decide (d.res = r)
  | none => false
def zeroQ : QueD := ⟨⟨0, false, 0⟩, [], []⟩
def qOf (L : List QueD) (r : ResD) : QueD := match L[posQ L r]? with
  | some d => if d.res = r then d else zeroQ
  | none => zeroQ
theorem there_some {L : List QueD} {r : ResD} (h : thereQ L r = true) : ∃ d, L[posQ L r]? = some d ∧ d.res = r ∧ qOf L r = d := by
  unfold thereQ at h
  cases hx : L[posQ L r]? with
  | none => rw [hx] at h; cases h
  | some d =>
    rw [hx] at h
    have hr := of_decide_eq_true h
    exact ⟨d, rfl, hr, by unfold qOf; rw [hx]; exact if_pos hr⟩
theorem there_none {L : List QueD} {r : ResD} (h : thereQ L r = false) : qOf L r = zeroQ := by
  unfold thereQ at h
  unfold qOf
  cases hx : L[posQ L r]? with
  | none => rfl
  | some d =>
    rw [hx] at h
    exact if_neg (of_decide_eq_false h)

set_option maxRecDepth 100000 in
set_option maxHeartbeats 2000000 in
theorem place_any (q : Option Addr) (n c : Nat) (V : List QV) (L : List QueD) (rt : Int) (rk : Bool) (ri : Int) (w : World) (h : LkOn w q n c V L) (hso : SortQ L) (hsm : n ≤ 1000000) (g0 : 0 ≤ ri) (g1 : ri < 65536) :
    Calls Tryz.prog 96 #[.agg #[.slice q n c], .agg #[.int .i64 rt, .bool rk, .int .u16 ri]] w (fun e w' => e = .returned (.tuple #[.int .i64 (posQ L ⟨rt, rk, ri⟩ : Nat), .bool (thereQ L ⟨rt, rk, ri⟩)]) ∧ Below w.heap.size w w') := by
  obtain ⟨W, hW⟩ : ∃ W, (w.alloc (.cells #[.slice q n c] 24)).alloc (.cells #[.int .i64 rt, .bool rk, .int .u16 ri] 30) = W := ⟨_, rfl⟩
  have hbx := Lib.hid (two_boxes (xs := [.slice q n c]) (ys := [.int .i64 rt, .bool rk, .int .u16 ri]) hW)
  have hh := Lib.hid (h.below hbx.out.1 (Nat.le_refl _))
  have hl := Lib.hid h.len
  have hc := Lib.hid (bsQ_any q n c V L rt rk ri W hh.out hso hsm g0 g1)
  have c0 := hbx.out.2.1.cell 0 rfl
  have d0 := hbx.out.2.2.1.cell 0 rfl
  have d1 := hbx.out.2.2.1.cell 1 rfl
  have d2 := hbx.out.2.2.1.cell 2 rfl
  have key : (∃ d, L[posQ L ⟨rt, rk, ri⟩]? = some d ∧ thereQ L ⟨rt, rk, ri⟩ = decide (d.res = ⟨rt, rk, ri⟩)) ∨ (n ≤ posQ L ⟨rt, rk, ri⟩ ∧ thereQ L ⟨rt, rk, ri⟩ = false) := by
    unfold thereQ
    cases hx : L[posQ L ⟨rt, rk, ri⟩]? with
    | none => exact .inr ⟨by have := List.getElem?_eq_none_iff.1 hx; have := h.len; omega, rfl⟩
    | some d => exact .inl ⟨d, rfl, rfl⟩
  obtain ⟨p, hp⟩ : ∃ p, posQ L ⟨rt, rk, ri⟩ = p := ⟨_, rfl⟩
  obtain ⟨T, hT⟩ : ∃ T, thereQ L ⟨rt, rk, ri⟩ = T := ⟨_, rfl⟩
  have hpn : p ≤ n := by rw [← hp]; have := posQ_le L ⟨rt, rk, ri⟩; have := h.len; omega
  rw [hp, hT] at key
  rw [hp] at hc
  rw [hp, hT]
  have key' := Lib.hid key
  clear h hso key hp hT g0 g1
  go_enter Tryz.func96, Tryz.ntmps96
  go_wp2_with fail
  clear hW c0 d0 d1 d2
  refine hc.out.mono ?_
  rintro e w1 ⟨b, rfl, h1⟩
  have hB1 := Lib.hid h1
  have c0 := (hbx.out.2.1.below h1 (Nat.le_refl _)).cell 0 rfl
  have d0 := (hbx.out.2.2.1.below h1 (Nat.le_refl _)).cell 0 rfl
  have d1 := (hbx.out.2.2.1.below h1 (Nat.le_refl _)).cell 1 rfl
  have d2 := (hbx.out.2.2.1.below h1 (Nat.le_refl _)).cell 2 rfl
  clear h1 hc
  have hp0 : (0 : Int) ≤ p := by omega
  rcases key'.out with ⟨⟨res, hs, ws⟩, hx, hT⟩ | ⟨hx, hT⟩
  · have hplt : p < n := by have := (List.getElem?_eq_some_iff.1 hx).1; have := hl.out; omega
    have hp1 : (p : Int) < n := by omega
    obtain ⟨A, ⟨⟨at_, ak, ai⟩, hq, hn', hc, wq, wn, wc⟩, ⟨res', hs', ws'⟩, hqA, hV, hx2, hon, hcA⟩ := (hh.out.below hB1.out (Nat.le_refl _)).at hplt
    have hres : res' = ⟨at_, ak, ai⟩ := hon.res.symm
    subst hres
    rw [hx] at hx2
    cases hx2
    subst hqA
    have p0 : w1.cell? (A.add (p * 5)) = some (.int .i64 at_) := by have h := hcA 0 _ rfl; rwa [add0] at h
    have p1 : w1.cell? ⟨(A.add (p * 5)).block, (A.add (p * 5)).off + 1, none⟩ = some (.bool ak) := hcA 1 _ rfl
    have p2 : w1.cell? ⟨(A.add (p * 5)).block, (A.add (p * 5)).off + 2, none⟩ = some (.int .u16 ai) := hcA 2 _ rfl
    have heq := fun u => eqRes u at_ ak ai rt rk ri
    have hT' : decide ((⟨at_, ak, ai⟩ : ResD) = ⟨rt, rk, ri⟩) = T := hT.symm
    rw [hT'] at heq
    have hd1 : decide ((p : Int) < n) = true := decide_eq_true hp1
    clear hx hT hcA hV hon hT'
    go_wp2
    go_quiet (fail)
    clear p0 p1 p2 c0 d0 d1 d2 heq
    go_wp2
    go_ret2
    exact ⟨by simp, below_step (hB1.out.trans ((below_drewN _ _).mono hB1.out.size)) hbx.out.1⟩
  · subst hT
    have hp1 : ¬ (p : Int) < n := by omega
    have hd1 : decide ((p : Int) < n) = false := decide_eq_false hp1
    have hn1 : ¬ p < n := by omega
    have hd2 : decide (p < n) = false := decide_eq_false hn1
    have hd3 : ((p : Int) < n) = False := eq_false hp1
    clear hx key' hpn
    go_wp2
    go_quiet (fail)
    clear c0 d0 d1 d2
    go_wp2
    go_ret2
    exact ⟨rfl, below_step (hB1.out.trans ((below_drewN _ _).mono hB1.out.size)) hbx.out.1⟩

theorem QV.On.gr {w w' : World} {v : QV} {d : QueD} {g : Nat} (h : v.On w d) (hg : w.grownBy w' (some g)) (h1 : ∀ a, v.hq = some a → a.block ≠ g) (h2 : ∀ a, v.wq = some a → a.block ≠ g) : v.On w' d := ⟨h.res, h.ok, h.hs.gr hg h1, h.ws.gr hg h2⟩
theorem low_step {w u v : World} {g : Nat} (h0 : Below w.heap.size w u) (h : u.grownBy v (some g)) (hg : w.heap.size ≤ g) : Below w.heap.size w v :=
  h0.trans ⟨h.os, h.tape, h.output, h.size, fun k hk => h.block k (Nat.lt_of_lt_of_le hk h0.size) (fun e => by simp at e; omega)⟩
theorem RowV.made' {T : TypeId} {w W : World} {cs : List Value} (h : w.alloc (.cells cs.toArray T) = W) : RowV T W w.heap.size cs := by subst h; exact RowV.made w cs
theorem one_q (v : QV) : ∀ x ∈ ([.int .i64 v.res.t, .bool v.res.k, .int .u16 v.res.id, .slice v.hq v.hn v.hc, .slice v.wq v.wn v.wc] : List Value), x.oneCell' = true := Cel.one v
def QPost (L : List QueD) (r : ResD) (w : World) (e : Ending) (w' : World) : Prop := ∃ v : QV, e = .returned (.tuple #[v.val, .bool (thereQ L r)]) ∧ v.On w' (qOf L r) ∧ Below w.heap.size w w'

set_option maxRecDepth 100000 in
set_option maxHeartbeats 2000000 in
theorem queueOf_any (q : Option Addr) (n c : Nat) (V : List QV) (L : List QueD) (rt : Int) (rk : Bool) (ri : Int) (w : World) (h : LkOn w q n c V L) (hso : SortQ L) (hsm : n ≤ 1000000) (g0 : 0 ≤ ri) (g1 : ri < 65536) :
    Calls Tryz.prog 53 #[.agg #[.slice q n c], .agg #[.int .i64 rt, .bool rk, .int .u16 ri]] w (QPost L ⟨rt, rk, ri⟩ w) := by
  obtain ⟨W0, hW0⟩ : ∃ W, (w.alloc (.cells #[.slice q n c] 24)).alloc (.cells #[.int .i64 rt, .bool rk, .int .u16 ri] 30) = W := ⟨_, rfl⟩
  have hbx := Lib.hid (two_boxes (xs := [.slice q n c]) (ys := [.int .i64 rt, .bool rk, .int .u16 ri]) hW0)
  obtain ⟨W, hW⟩ : ∃ W, W0.alloc (.cells #[.int .i64 0, .bool false, .int .u16 0, .slice none 0 0, .slice none 0 0] 43) = W := ⟨_, rfl⟩
  have hres : Hid (RowV 43 W (w.heap.size + 2) [.int .i64 0, .bool false, .int .u16 0, .slice none 0 0, .slice none 0 0]) := by
    have h := RowV.made' (cs := [.int .i64 0, .bool false, .int .u16 0, .slice none 0 0, .slice none 0 0]) hW
    rw [hbx.out.2.2.2] at h
    exact h
  have hb2 : Hid (Below W0.heap.size W0 W) := by rw [← hW]; exact below_alloc _ _
  have hBW := Lib.hid (below_step hb2.out hbx.out.1)
  have hWs : W0.heap.size = w.heap.size + 2 := hbx.out.2.2.2
  have hh := Lib.hid (h.below hBW.out (Nat.le_refl _))
  have hh0 := Lib.hid h
  have hx1 := Lib.hid (hbx.out.2.1.below hb2.out (Nat.le_refl _))
  have hx2 := Lib.hid (hbx.out.2.2.1.below hb2.out (Nat.le_refl _))
  have hc := Lib.hid (place_any q n c V L rt rk ri W hh.out hso hsm g0 g1)
  have s1 := sizeLks (.slice q n c)
  have s3 := sizeRes (.int .i64 rt) (.bool rk) (.int .u16 ri)
  obtain ⟨p, hp⟩ : ∃ p, posQ L ⟨rt, rk, ri⟩ = p := ⟨_, rfl⟩
  obtain ⟨T, hT⟩ : ∃ T, thereQ L ⟨rt, rk, ri⟩ = T := ⟨_, rfl⟩
  rw [hp, hT] at hc
  unfold QPost
  rw [hT]
  have hp' := Lib.hid hp
  have hT' := Lib.hid hT
  clear h hso hp hT g0 g1
  cases T with
  | true =>
    obtain ⟨d, hd1, hd2, hd3⟩ := there_some hT'.out
    rw [hp'.out] at hd1
    rw [hd3]
    have hd1' := Lib.hid hd1
    have hlen := Lib.hid hh0.out.len
    clear hd1 hd2 hd3
    go_enter Tryz.func53, Tryz.ntmps53
    go_wp2_with (first
      | (with_reducible refine wpList_load_at rfl 24 (.tmp 2) rfl Tryz.underlying24 rfl s1 rfl hx1.out.all ?_)
      | (with_reducible refine wpList_load_at rfl 30 (.tmp 3) rfl Tryz.underlying30 rfl s3 rfl hx2.out.all ?_))
    clear hW hW0
    refine hc.out.mono ?_
    rintro e w1 ⟨rfl, h1⟩
    have hB1 := Lib.hid h1
    have hr1 := Lib.hid (hres.out.below h1)
    have c0 := (hx1.out.below h1 (Nat.le_refl _)).cell 0 rfl
    clear h1 hc
    have hplt : p < n := by have := (List.getElem?_eq_some_iff.1 hd1'.out).1; have := hlen.out; omega
    have hp0 : (0 : Int) ≤ p := by omega
    have hp1 : (p : Int) < n := by omega
    obtain ⟨A, v, d', hqA, hV, hx3, hon, hcA⟩ := hh0.out.at hplt
    rw [hd1'.out] at hx3
    cases hx3
    subst hqA
    have hBw := Lib.hid (below_step hB1.out hBW.out)
    have hcell : Hid (∀ j' x, ([.int .i64 v.res.t, .bool v.res.k, .int .u16 v.res.id, .slice v.hq v.hn v.hc, .slice v.wq v.wn v.wc] : List Value)[j']? = some x → w1.cell? ((A.add (p * 5)).add j') = some x) := fun j x hj => cell_kept hBw.out (Nat.le_refl _) (hcA j x hj)
    have s5 := sizeQue (.int .i64 v.res.t) (.bool v.res.k) (.int .u16 v.res.id) (.slice v.hq v.hn v.hc) (.slice v.wq v.wn v.wc)
    have hon' := Lib.hid hon
    have h1q := one_q v
    clear hcA hV hon
    go_wp2_with (first
      | (with_reducible refine wpList_load_at rfl 43 (.tmp 20) rfl Tryz.underlying43 rfl s5 rfl hcell.out ?_)
      | ((with_reducible refine wpList_store_at rfl 43 (.tmp 4) (.tmp 21) rfl (o := 0) (vs := [.int .i64 v.res.t, .bool v.res.k, .int .u16 v.res.id, .slice v.hq v.hn v.hc, .slice v.wq v.wn v.wc]) rfl rfl hr1.out s5 (Nat.le_refl _) h1q ?_)
         intro w9 h9 hg9
         have q9 : Hid (RowV 43 w9 (w.heap.size + 2) [.int .i64 v.res.t, .bool v.res.k, .int .u16 v.res.id, .slice v.hq v.hn v.hc, .slice v.wq v.wn v.wc]) := h9
         have hg9' := Lib.hid hg9
         clear h9 hg9))
    have m0 := q9.out.cell 0
    have m1 := q9.out.cell 1
    have m2 := q9.out.cell 2
    have m3 := q9.out.cell 3
    have m4 := q9.out.cell 4
    simp only [List.getElem?_cons_zero, List.getElem?_cons_succ] at m0 m1 m2 m3 m4
    have hfin := low_step hBw.out hg9'.out (by omega)
    exact bodyPost_ret (v := .tuple #[.agg #[.int .i64 v.res.t, .bool v.res.k, .int .u16 v.res.id, .slice v.hq v.hn v.hc, .slice v.wq v.wn v.wc], .bool true]) (by simp [results, Tryz.results53, go_sem, m0, m1, m2, m3, m4]) rfl ⟨v, rfl, hon'.out.below hfin (Nat.le_refl _), hfin⟩
  | false =>
    have hz := there_none hT'.out
    rw [hz]
    clear hz
    go_enter Tryz.func53, Tryz.ntmps53
    go_wp2_with (first
      | (with_reducible refine wpList_load_at rfl 24 (.tmp 2) rfl Tryz.underlying24 rfl s1 rfl hx1.out.all ?_)
      | (with_reducible refine wpList_load_at rfl 30 (.tmp 3) rfl Tryz.underlying30 rfl s3 rfl hx2.out.all ?_))
    clear hW hW0
    refine hc.out.mono ?_
    rintro e w1 ⟨rfl, h1⟩
    have hB1 := Lib.hid h1
    have hr1 := Lib.hid (hres.out.below h1)
    clear h1 hc
    have s5 := sizeQue (.int .i64 0) (.bool false) (.int .u16 0) (.slice none 0 0) (.slice none 0 0)
    have h1q := one_q ⟨⟨0, false, 0⟩, none, 0, 0, none, 0, 0⟩
    go_wp2_with (first
      | ((with_reducible refine wpList_store_at rfl 43 (.tmp 4) (.tmp 16) rfl (o := 0) (vs := [.int .i64 0, .bool false, .int .u16 0, .slice none 0 0, .slice none 0 0]) rfl rfl hr1.out s5 (Nat.le_refl _) h1q ?_)
         intro w9 h9 hg9
         have q9 : Hid (RowV 43 w9 (w.heap.size + 2) [.int .i64 0, .bool false, .int .u16 0, .slice none 0 0, .slice none 0 0]) := h9
         have hg9' := Lib.hid hg9
         clear h9 hg9))
    have m0 := q9.out.cell 0
    have m1 := q9.out.cell 1
    have m2 := q9.out.cell 2
    have m3 := q9.out.cell 3
    have m4 := q9.out.cell 4
    simp only [List.getElem?_cons_zero, List.getElem?_cons_succ] at m0 m1 m2 m3 m4
    have hfin := low_step (below_step hB1.out hBW.out) hg9'.out (by omega)
    exact bodyPost_ret (v := .tuple #[.agg #[.int .i64 0, .bool false, .int .u16 0, .slice none 0 0, .slice none 0 0], .bool false]) (by simp [results, Tryz.results53, go_sem, m0, m1, m2, m3, m4]) rfl ⟨⟨⟨0, false, 0⟩, none, 0, 0, none, 0, 0⟩, rfl, ⟨rfl, ⟨by decide, by decide⟩, SlOn.none_ _, SlOn.none_ _⟩, hfin⟩
end Go.Proofs.YtbgpppbcffpdbaaGreatDoor

/-! slices.Insert of one thing: the block that is written, and the block that it lies in then. -/
namespace Go.Proofs.YtbgpppbcffpdbaaGreatDoor
open Go.RowKit

/-- a slice in the block of another one, or in a block that is new -/
def NewAt (q q' : Option Addr) (s : Nat) : Prop := ∀ a', q' = some a' → (∃ a, q = some a ∧ a'.block = a.block) ∨ s ≤ a'.block
theorem newAt_of {q q' : Option Addr} {s : Nat} (h3 : q'.map (·.block) = q.map (·.block) ∨ q'.map (·.block) = some s) : Hid (NewAt q q' s) := by
  refine Lib.hid ?_
  intro a' ha'
  subst ha'
  rcases h3 with h3 | h3
  · cases q with
    | none => simp at h3
    | some a => exact .inl ⟨a, rfl, by simpa using h3⟩
  · exact .inr (by simp at h3; omega)

set_option maxRecDepth 100000 in
set_option maxHeartbeats 2000000 in
theorem insert_en2H (B : Nat) (q : Option Addr) (n c vb : Nat) (l : List HoldD) (r : HoldD) (w : World) (hn : n ≤ 1000000) (hB : B ≤ w.heap.size) (hown : OwnS 45 w B (.slice q n c) l) (hv : RowV 45 w vb (Cel.cells r)) :
    Calls Tryz.prog 114 #[.slice q n c, .int .i64 n, .slice (some ⟨vb, 0, none⟩) 1 1] w (fun e w' => ∃ q' c', e = .returned (.slice q' (n + 1) c') ∧ OwnS 45 w' B (.slice q' (n + 1) c') (l ++ [r]) ∧ w.grownBy w' (q.map (·.block)) ∧ NewAt q q' w.heap.size) := by
  have hr := Lib.hid (OwnS.single hv).reads
  have ho := Lib.hid hown
  clear hown hv
  go_enter Tryz.func114, Tryz.ntmps114
  go_wp2_with (first
    | (at_builtin
       refine wpList_append_l Tryz.underlying40 infoHold rfl rfl (.tmp 23) (.tmp 24) rfl rfl rfl ho.out hr.out (by omega) (by omega) hB ?_
       intro q' c' w' h1 h2 h3
       have hh := Lib.hid h1
       have hg := Lib.hid h2
       have ha : Hid (NewAt q q' w.heap.size) := newAt_of h3
       clear h1 h2 h3))
  all_goals
    go_ret
    exact ⟨q', c', rfl, hh.out, hg.out, ha.out⟩

theorem insert_finH (B : Nat) (q : Option Addr) (n c i vb : Nat) (l : List HoldD) (r : HoldD) (w : World) (hi : i ≤ n) (hn : n ≤ 1000000) (hB : B ≤ w.heap.size) (hown : OwnS 45 w B (.slice q n c) l) (hv : RowV 45 w vb (Cel.cells r)) (hne : ∀ a, q = some a → vb ≠ a.block) :
    Calls Tryz.prog 114 #[.slice q n c, .int .i64 i, .slice (some ⟨vb, 0, none⟩) 1 1] w (fun e w' => ∃ q' c', e = .returned (.slice q' (n + 1) c') ∧ OwnS 45 w' B (.slice q' (n + 1) c') (l.take i ++ r :: l.drop i) ∧ w.grownBy w' (q.map (·.block)) ∧ NewAt q q' w.heap.size) := by
  have hl := hown.len
  rcases Nat.lt_or_ge i n with hlt | hge
  · cases q with
    | none =>
      obtain ⟨_, ⟨he, h0⟩ | ⟨g, cap, cur, he, _⟩⟩ := hown
      · simp only [Value.slice.injEq] at he; omega
      · simp only [Value.slice.injEq] at he; exact absurd he.1 (by simp)
    | some a =>
      obtain ⟨g, cur, rfl, hBg, hrow, hnc, hc, hs, ht⟩ := openedH hown
      by_cases hroom : n + 1 ≤ c
      · refine (insert_shiftH B g c n i vb cur l r w hlt hroom hn hc hBg hrow hs ht hl.symm hv (hne _ rfl)).mono ?_
        rintro e w' ⟨rfl, h1, h2⟩
        exact ⟨_, _, rfl, h1, h2, fun a' ha' => .inl ⟨_, rfl, by cases ha'; rfl⟩⟩
      · refine (insert_growH w.heap.size g c n i vb cur l r w hlt hnc (by omega) hn (Nat.le_refl _) hrow ht hl.symm hv).mono ?_
        rintro e w' ⟨q', c', rfl, h1, h2⟩
        exact ⟨_, _, rfl, h1.mono hB, below_grown h2 _, fun a' ha' => .inr (h1.far a' ha').1⟩
  · obtain rfl : i = n := by omega
    refine (insert_en2H B q i c vb l r w hn hB hown hv).mono ?_
    rintro e w' ⟨q', c', rfl, h1, h2, h3⟩
    refine ⟨q', c', rfl, ?_, h2, ?_⟩
    · rw [List.take_of_length_le (by omega), List.drop_of_length_le (by omega)]
      exact h1
    · exact h3

set_option maxRecDepth 100000 in
set_option maxHeartbeats 2000000 in
theorem insert_en2W (B : Nat) (q : Option Addr) (n c vb : Nat) (l : List WaitD) (r : WaitD) (w : World) (hn : n ≤ 1000000) (hB : B ≤ w.heap.size) (hown : OwnS 47 w B (.slice q n c) l) (hv : RowV 47 w vb (Cel.cells r)) :
    Calls Tryz.prog 115 #[.slice q n c, .int .i64 n, .slice (some ⟨vb, 0, none⟩) 1 1] w (fun e w' => ∃ q' c', e = .returned (.slice q' (n + 1) c') ∧ OwnS 47 w' B (.slice q' (n + 1) c') (l ++ [r]) ∧ w.grownBy w' (q.map (·.block)) ∧ NewAt q q' w.heap.size) := by
  have hr := Lib.hid (OwnS.single hv).reads
  have ho := Lib.hid hown
  clear hown hv
  go_enter Tryz.func115, Tryz.ntmps115
  go_wp2_with (first
    | (at_builtin
       refine wpList_append_l Tryz.underlying41 infoWait rfl rfl (.tmp 23) (.tmp 24) rfl rfl rfl ho.out hr.out (by omega) (by omega) hB ?_
       intro q' c' w' h1 h2 h3
       have hh := Lib.hid h1
       have hg := Lib.hid h2
       have ha : Hid (NewAt q q' w.heap.size) := newAt_of h3
       clear h1 h2 h3))
  all_goals
    go_ret
    exact ⟨q', c', rfl, hh.out, hg.out, ha.out⟩

theorem insert_finW (B : Nat) (q : Option Addr) (n c i vb : Nat) (l : List WaitD) (r : WaitD) (w : World) (hi : i ≤ n) (hn : n ≤ 1000000) (hB : B ≤ w.heap.size) (hown : OwnS 47 w B (.slice q n c) l) (hv : RowV 47 w vb (Cel.cells r)) (hne : ∀ a, q = some a → vb ≠ a.block) :
    Calls Tryz.prog 115 #[.slice q n c, .int .i64 i, .slice (some ⟨vb, 0, none⟩) 1 1] w (fun e w' => ∃ q' c', e = .returned (.slice q' (n + 1) c') ∧ OwnS 47 w' B (.slice q' (n + 1) c') (l.take i ++ r :: l.drop i) ∧ w.grownBy w' (q.map (·.block)) ∧ NewAt q q' w.heap.size) := by
  have hl := hown.len
  rcases Nat.lt_or_ge i n with hlt | hge
  · cases q with
    | none =>
      obtain ⟨_, ⟨he, h0⟩ | ⟨g, cap, cur, he, _⟩⟩ := hown
      · simp only [Value.slice.injEq] at he; omega
      · simp only [Value.slice.injEq] at he; exact absurd he.1 (by simp)
    | some a =>
      obtain ⟨g, cur, rfl, hBg, hrow, hnc, hc, hs, ht⟩ := openedW hown
      by_cases hroom : n + 1 ≤ c
      · refine (insert_shiftW B g c n i vb cur l r w hlt hroom hn hc hBg hrow hs ht hl.symm hv (hne _ rfl)).mono ?_
        rintro e w' ⟨rfl, h1, h2⟩
        exact ⟨_, _, rfl, h1, h2, fun a' ha' => .inl ⟨_, rfl, by cases ha'; rfl⟩⟩
      · refine (insert_growW w.heap.size g c n i vb cur l r w hlt hnc (by omega) hn (Nat.le_refl _) hrow ht hl.symm hv).mono ?_
        rintro e w' ⟨q', c', rfl, h1, h2⟩
        exact ⟨_, _, rfl, h1.mono hB, below_grown h2 _, fun a' ha' => .inr (h1.far a' ha').1⟩
  · obtain rfl : i = n := by omega
    refine (insert_en2W B q i c vb l r w hn hB hown hv).mono ?_
    rintro e w' ⟨q', c', rfl, h1, h2, h3⟩
    refine ⟨q', c', rfl, ?_, h2, ?_⟩
    · rw [List.take_of_length_le (by omega), List.drop_of_length_le (by omega)]
      exact h1
    · exact h3

set_option maxRecDepth 100000 in
set_option maxHeartbeats 2000000 in
theorem insert_en2Q (B : Nat) (q : Option Addr) (n c vb : Nat) (l : List QV) (r : QV) (w : World) (hn : n ≤ 1000000) (hB : B ≤ w.heap.size) (hown : OwnS 43 w B (.slice q n c) l) (hv : RowV 43 w vb (Cel.cells r)) :
    Calls Tryz.prog 113 #[.slice q n c, .int .i64 n, .slice (some ⟨vb, 0, none⟩) 1 1] w (fun e w' => ∃ q' c', e = .returned (.slice q' (n + 1) c') ∧ OwnS 43 w' B (.slice q' (n + 1) c') (l ++ [r]) ∧ w.grownBy w' (q.map (·.block)) ∧ NewAt q q' w.heap.size) := by
  have hr := Lib.hid (OwnS.single hv).reads
  have ho := Lib.hid hown
  clear hown hv
  go_enter Tryz.func113, Tryz.ntmps113
  go_wp2_with (first
    | (at_builtin
       refine wpList_append_l Tryz.underlying22 infoQue rfl rfl (.tmp 23) (.tmp 24) rfl rfl rfl ho.out hr.out (by omega) (by omega) hB ?_
       intro q' c' w' h1 h2 h3
       have hh := Lib.hid h1
       have hg := Lib.hid h2
       have ha : Hid (NewAt q q' w.heap.size) := newAt_of h3
       clear h1 h2 h3))
  all_goals
    go_ret
    exact ⟨q', c', rfl, hh.out, hg.out, ha.out⟩

theorem insert_finQ (B : Nat) (q : Option Addr) (n c i vb : Nat) (l : List QV) (r : QV) (w : World) (hi : i ≤ n) (hn : n ≤ 1000000) (hB : B ≤ w.heap.size) (hown : OwnS 43 w B (.slice q n c) l) (hv : RowV 43 w vb (Cel.cells r)) (hne : ∀ a, q = some a → vb ≠ a.block) :
    Calls Tryz.prog 113 #[.slice q n c, .int .i64 i, .slice (some ⟨vb, 0, none⟩) 1 1] w (fun e w' => ∃ q' c', e = .returned (.slice q' (n + 1) c') ∧ OwnS 43 w' B (.slice q' (n + 1) c') (l.take i ++ r :: l.drop i) ∧ w.grownBy w' (q.map (·.block)) ∧ NewAt q q' w.heap.size) := by
  have hl := hown.len
  rcases Nat.lt_or_ge i n with hlt | hge
  · cases q with
    | none =>
      obtain ⟨_, ⟨he, h0⟩ | ⟨g, cap, cur, he, _⟩⟩ := hown
      · simp only [Value.slice.injEq] at he; omega
      · simp only [Value.slice.injEq] at he; exact absurd he.1 (by simp)
    | some a =>
      obtain ⟨g, cur, rfl, hBg, hrow, hnc, hc, hs, ht⟩ := openedQ hown
      by_cases hroom : n + 1 ≤ c
      · refine (insert_shiftQ B g c n i vb cur l r w hlt hroom hn hc hBg hrow hs ht hl.symm hv (hne _ rfl)).mono ?_
        rintro e w' ⟨rfl, h1, h2⟩
        exact ⟨_, _, rfl, h1, h2, fun a' ha' => .inl ⟨_, rfl, by cases ha'; rfl⟩⟩
      · refine (insert_growQ w.heap.size g c n i vb cur l r w hlt hnc (by omega) hn (Nat.le_refl _) hrow ht hl.symm hv).mono ?_
        rintro e w' ⟨q', c', rfl, h1, h2⟩
        exact ⟨_, _, rfl, h1.mono hB, below_grown h2 _, fun a' ha' => .inr (h1.far a' ha').1⟩
  · obtain rfl : i = n := by omega
    refine (insert_en2Q B q i c vb l r w hn hB hown hv).mono ?_
    rintro e w' ⟨q', c', rfl, h1, h2, h3⟩
    refine ⟨q', c', rfl, ?_, h2, ?_⟩
    · rw [List.take_of_length_le (by omega), List.drop_of_length_le (by omega)]
      exact h1
    · exact h3

end Go.Proofs.YtbgpppbcffpdbaaGreatDoor

/-! A queue in a row of the call's own, behind a pointer; dropHold and dropWait. -/
namespace Go.Proofs.YtbgpppbcffpdbaaGreatDoor
open Go.RowKit

/-- only blocks of S change, and new ones come -/
structure Fr (S : Nat → Prop) (w w' : World) : Prop where
  os : w'.os = w.os
  tape : w'.tape = w.tape
  output : w'.output = w.output
  size : w.heap.size ≤ w'.heap.size
  block : ∀ k, k < w.heap.size → ¬ S k → w'.heap[k]? = w.heap[k]?
theorem Fr.refl (S : Nat → Prop) (w : World) : Fr S w w := ⟨rfl, rfl, rfl, Nat.le_refl _, fun _ _ _ => rfl⟩
theorem Fr.trans {S : Nat → Prop} {a b c : World} (h : Fr S a b) (k : Fr S b c) : Fr S a c :=
  ⟨k.os.trans h.os, k.tape.trans h.tape, k.output.trans h.output, Nat.le_trans h.size k.size, fun i hi hn => (k.block i (Nat.lt_of_lt_of_le hi h.size) hn).trans (h.block i hi hn)⟩
theorem Fr.mono {S T : Nat → Prop} {a b : World} (h : Fr S a b) (hs : ∀ k, k < a.heap.size → S k → T k) : Fr T a b := ⟨h.os, h.tape, h.output, h.size, fun k hk hn => h.block k hk (fun e => hn (hs k hk e))⟩
/-- a second step may change what is new since the first world -/
theorem Fr.then {S T : Nat → Prop} {a b c : World} (h : Fr S a b) (k : Fr T b c) (hs : ∀ k, k < a.heap.size → T k → S k) : Fr S a c :=
  ⟨k.os.trans h.os, k.tape.trans h.tape, k.output.trans h.output, Nat.le_trans h.size k.size, fun i hi hn => (k.block i (Nat.lt_of_lt_of_le hi h.size) (fun e => hn (hs i hi e))).trans (h.block i hi hn)⟩
theorem Fr.of_below {S : Nat → Prop} {w w' : World} (h : Below w.heap.size w w') : Fr S w w' := ⟨h.os, h.tape, h.output, h.size, fun k hk _ => h.block k hk⟩
theorem Fr.of_grown {S : Nat → Prop} {w w' : World} {q : Option Nat} (h : w.grownBy w' q) (hq : ∀ k, q = some k → S k) : Fr S w w' := ⟨h.os, h.tape, h.output, h.size, fun k hk hn => h.block k hk (fun e => hn (hq k e.symm))⟩
theorem Fr.of_set {S : Nat → Prop} (w : World) {g : Nat} (j : Nat) (v : Value) (hg : S g) : Fr S w (w.setCell ⟨g, j, none⟩ v) := .of_grown (setCell_grown w g j v) (fun k e => by cases e; exact hg)
theorem Fr.below {S : Nat → Prop} {w w' : World} {B : Nat} (h : Fr S w w') (hB : B ≤ w.heap.size) (hs : ∀ k, S k → B ≤ k) : Below B w w' := ⟨h.os, h.tape, h.output, h.size, fun k hk => h.block k (by omega) (fun e => by have := hs k e; omega)⟩
theorem OwnS.fr {α : Type} [Cel α] {S : Nat → Prop} {T : TypeId} {w w' : World} {base : Nat} {q : Option Addr} {n c : Nat} {l : List α} (h : OwnS T w base (.slice q n c) l) (hf : Fr S w w') (hn : ∀ a, q = some a → ¬ S a.block) : OwnS T w' base (.slice q n c) l :=
  h.kept fun a ha => hf.block _ (h.far a ha).2 (hn a ha)
theorem SlOn.fr {α : Type} [Cel α] {S : Nat → Prop} {w w' : World} {q : Option Addr} {n c : Nat} {l : List α} (h : SlOn w q n c l) (hf : Fr S w w') (hn : ∀ a, q = some a → ¬ S a.block) : SlOn w' q n c l :=
  ⟨h.len, h.le, h.cap, h.nil, fun i r hi => by
    obtain ⟨a, ha, hc⟩ := h.get i r hi
    refine ⟨a, ha, fun j x hj => ?_⟩
    have hlt := cell_in (hc j x hj)
    rw [add_block2] at hlt
    rw [World.cell?_of_block (w := w) (by rw [add_block2]; exact hf.block _ hlt (hn a ha))]
    exact hc j x hj⟩

theorem set_cells {cur : List Value} {V : List QV} {v v' : QV} {n i c f : Nat} {x : Value} (hl : V.length = n) (hv : V[i]? = some v) (hs : cur.length = c * 5) (hc : n ≤ c) (ht : cur.take (n * 5) = cellsL V)
    (h1 : (Cel.cells v')[f]? = some x) (h2 : ∀ j, j ≠ f → (Cel.cells v')[j]? = (Cel.cells v)[j]?) : (cur.set (i * 5 + f) x).take (n * 5) = cellsL (V.set i v') := by
  have hi : i < n := by have := (List.getElem?_eq_some_iff.1 hv).1; omega
  rw [← setQ hl hi hs hc ht]
  congr 1
  have hlen : (Cel.cells v').length = 5 := Cel.len v'
  have hlen0 : (Cel.cells v).length = 5 := Cel.len v
  have hf : f < 5 := by have := (List.getElem?_eq_some_iff.1 h1).1; omega
  unfold splice
  apply List.ext_getElem?
  intro k
  have hcur : ∀ j, j < 5 → cur[i * 5 + j]? = (Cel.cells v)[j]? := by
    intro j hj
    have hx : (Cel.cells v)[j]? = some ((Cel.cells v)[j]'(by omega)) := List.getElem?_eq_getElem (by omega)
    have := cellsL_get V i v hv j _ hx
    rw [← ht, List.getElem?_take] at this
    split at this
    · rw [hx]; exact this
    · cases this
  rw [List.getElem?_set]
  by_cases hk0 : k < i * 5
  · rw [if_neg (by omega), List.getElem?_append_left (by rw [List.length_take]; omega), List.getElem?_take, if_pos hk0]
  · obtain ⟨j, rfl⟩ : ∃ j, k = i * 5 + j := ⟨k - i * 5, by omega⟩
    have e1 : (cur.take (i * 5)).length = i * 5 := by rw [List.length_take]; omega
    rw [List.getElem?_append_right (by rw [e1]; omega), e1, Nat.add_sub_cancel_left]
    by_cases hj : j < 5
    · rw [List.getElem?_append_left (by omega)]
      by_cases hjf : j = f
      · subst hjf; rw [if_pos rfl, if_pos (by omega), h1]
      · rw [if_neg (by omega), hcur j hj, h2 j hjf]
    · rw [if_neg (by omega), List.getElem?_append_right (by omega), List.getElem?_drop, hlen]
      congr 1; omega

/-- a queue's cell written, in a row of the call's own -/
theorem row_set {w : World} {lo G n c i f : Nat} {V : List QV} {v v' : QV} {x : Value} (h : OwnS 43 w lo (.slice (some ⟨G, 0, none⟩) n c) V) (hv : V[i]? = some v)
    (h1 : (Cel.cells v')[f]? = some x) (h2 : ∀ j, j ≠ f → (Cel.cells v')[j]? = (Cel.cells v)[j]?) : OwnS 43 (w.setCell ⟨G, i * 5 + f, none⟩ x) lo (.slice (some ⟨G, 0, none⟩) n c) (V.set i v') := by
  have hl := h.len
  obtain ⟨g, cur, he, hB, hr, hn, hc, hs, ht⟩ := openedQ h
  cases he
  exact mkQ hB (hr.set _ x) hn hc (by rw [List.length_set]; exact hs) (set_cells hl.symm hv hs hn ht h1 h2) (by rw [List.length_set]; exact hl.symm)
theorem row_hq {w : World} {lo G n c i : Nat} {V : List QV} {v : QV} {q : Option Addr} {m d : Nat} (h : OwnS 43 w lo (.slice (some ⟨G, 0, none⟩) n c) V) (hv : V[i]? = some v) : OwnS 43 (w.setCell ⟨G, i * 5 + 3, none⟩ (.slice q m d)) lo (.slice (some ⟨G, 0, none⟩) n c) (V.set i { v with hq := q, hn := m, hc := d }) :=
  row_set (v' := { v with hq := q, hn := m, hc := d }) h hv rfl (fun j hj => by
    match j, hj with
    | 0, _ => rfl
    | 1, _ => rfl
    | 2, _ => rfl
    | 3, h => exact absurd rfl h
    | 4, _ => rfl
    | _ + 5, _ => rfl)
theorem row_wq {w : World} {lo G n c i : Nat} {V : List QV} {v : QV} {q : Option Addr} {m d : Nat} (h : OwnS 43 w lo (.slice (some ⟨G, 0, none⟩) n c) V) (hv : V[i]? = some v) : OwnS 43 (w.setCell ⟨G, i * 5 + 4, none⟩ (.slice q m d)) lo (.slice (some ⟨G, 0, none⟩) n c) (V.set i { v with wq := q, wn := m, wc := d }) :=
  row_set (v' := { v with wq := q, wn := m, wc := d }) h hv rfl (fun j hj => by
    match j, hj with
    | 0, _ => rfl
    | 1, _ => rfl
    | 2, _ => rfl
    | 3, _ => rfl
    | 4, h => exact absurd rfl h
    | _ + 5, _ => rfl)
/-- the cells of a queue in a row -/
theorem row_cell {w : World} {lo G n c i : Nat} {V : List QV} {v : QV} (h : OwnS 43 w lo (.slice (some ⟨G, 0, none⟩) n c) V) (hv : V[i]? = some v) (j : Nat) {x : Value} (hx : (Cel.cells v)[j]? = some x) : w.cell? ⟨G, i * 5 + j, none⟩ = some x := by
  obtain ⟨a, ha, hc⟩ := h.reads.get i v hv
  cases ha
  have := hc j x hx
  rw [addr0] at this
  have e : (⟨G, i * 5, none⟩ : Addr).add j = ⟨G, i * 5 + j, none⟩ := by unfold Addr.add; split <;> simp_all
  rwa [show (i * Cel.sz QV) = i * 5 from rfl, e] at this
theorem row_free {w : World} {lo G n c : Nat} {V : List QV} (h : OwnS 43 w lo (.slice (some ⟨G, 0, none⟩) n c) V) (j : Nat) : w.frozen? ⟨G, j, none⟩ = false := by
  obtain ⟨g, cur, he, hB, hr, _⟩ := openedQ h
  cases he
  exact hr.free j
theorem row_lt {w : World} {lo G n c : Nat} {V : List QV} (h : OwnS 43 w lo (.slice (some ⟨G, 0, none⟩) n c) V) : lo ≤ G ∧ G < w.heap.size := h.far _ rfl

theorem cell_ne' {w w' : World} {g : Option Nat} {a : Addr} {v : Value} (hg : w.grownBy w' g) (hne : g ≠ some a.block) (h : w.cell? a = some v) : w'.cell? a = some v := by
  rw [World.cell?_of_block (w := w) (hg.block _ (cell_in h) (fun e => hne e.symm))]
  exact h
/-- what is in a queue's own slices, and in no other place -/
def InQ (G : Nat) (q : Option Addr) : Nat → Prop := fun k => k = G ∨ ∃ a, q = some a ∧ k = a.block

set_option maxRecDepth 100000 in
set_option maxHeartbeats 1000000 in
theorem dropHold_any (lo G n c i o : Nat) (ho : o = i * 5) (V : List QV) (v : QV) (l : List HoldD) (x : Int) (w : World) (hrow : OwnS 43 w lo (.slice (some ⟨G, 0, none⟩) n c) V) (hv : V[i]? = some v)
    (hown : OwnS 45 w lo (.slice v.hq v.hn v.hc) l) (hne : ∀ a, v.hq = some a → a.block ≠ G) (hsm : v.hn ≤ 1000000) :
    Calls Tryz.prog 61 #[.pointer (some ⟨G, o, none⟩), .int .i64 x] w (fun e w' => ∃ m, e = .returned (.tuple #[]) ∧ OwnS 43 w' lo (.slice (some ⟨G, 0, none⟩) n c) (V.set i { v with hn := m }) ∧ OwnS 45 w' lo (.slice v.hq m v.hc) (l.filter (fun a => !(a.x == x))) ∧ Fr (InQ G v.hq) w w') := by
  obtain ⟨W, hW⟩ : ∃ W, w.alloc (.cells #[.int .i64 x] 3) = W := ⟨_, rfl⟩
  have hbx := Lib.hid (one_box (xs := [.int .i64 x]) hW)
  have hrow1 := Lib.hid (hrow.below hbx.out.1)
  have hown1 := Lib.hid (hown.below hbx.out.1)
  have hfar := Lib.hid hown.far
  have hlt := Lib.hid (row_lt hrow)
  obtain ⟨q, hq⟩ : ∃ q, v.hq = q := ⟨_, rfl⟩
  obtain ⟨m, hm⟩ : ∃ m, v.hn = m := ⟨_, rfl⟩
  obtain ⟨d, hd⟩ : ∃ d, v.hc = d := ⟨_, rfl⟩
  rw [hq, hm, hd] at hown1
  rw [hq] at hfar hne
  rw [hm] at hsm
  have hc := Lib.hid (delH w.heap.size (fun a => a.x == x) q m d lo l W hown1.out hsm (fun a u hu => dropHoldFn_any a.x a.m x _ u (cell_ne' hu (fun e => by cases q with
    | none => cases e
    | some b => exact absurd (show b.block = w.heap.size by simpa using e) (Nat.ne_of_lt (hfar.out b rfl).2)) (hbx.out.2.1.cell 0 rfl))))
  have p0 := Lib.hid (row_cell hrow1.out hv 3 (x := .slice q m d) (by rw [← hq, ← hm, ← hd]; rfl))
  rw [← ho] at p0
  have p1 := p0.out
  have hne' := Lib.hid hne
  have hv' := Lib.hid hv
  have ho' := Lib.hid ho
  have hq' := Lib.hid hq
  have hm' := Lib.hid hm
  have hd' := Lib.hid hd
  have hbq : W.grownBy W (q.map (·.block)) := ⟨rfl, rfl, rfl, Nat.le_refl _, fun _ _ _ => rfl⟩
  rw [hq, hd]
  clear hrow hown hne hv ho hq hm hd hbq
  go_enter Tryz.func61, Tryz.ntmps61
  go_wp2_with fail
  clear hW
  refine hc.out.mono ?_
  rintro e w1 ⟨k, rfl, h1, h2⟩
  have hg := Lib.hid h2
  have ha := Lib.hid h1
  have hqG : ∀ a, q = some a → a.block ≠ G := hne'.out
  have hr1 := Lib.hid (hrow1.out.kept (w' := w1) (fun a e => by cases e; exact hg.out.block G (by have := hrow1.out.far _ rfl; exact this.2) (fun e => by cases q with
    | none => cases e
    | some b => exact hqG b rfl (by cases e; rfl))))
  have c9 : w1.cell? ⟨G, o + 3, none⟩ = some (.slice q m d) := by rw [ho'.out]; exact row_cell hr1.out hv'.out 3 (by rw [← hq'.out, ← hm'.out, ← hd'.out]; rfl)
  have f9 : w1.frozen? ⟨G, o + 3, none⟩ = false := row_free hr1.out _
  clear h1 h2 hc p1 hqG
  go_wp2
  go_end0
  rw [ho'.out]
  have hset := row_hq (q := q) (m := k) (d := d) hr1.out hv'.out
  have hfs : Fr (InQ G q) w1 (w1.setCell ⟨G, i * 5 + 3, none⟩ (.slice q k d)) := Fr.of_set w1 _ _ (.inl rfl)
  have hfg : Fr (InQ G q) W w1 := Fr.of_grown hg.out (fun j e => by
    cases q with
    | none => cases e
    | some b => cases e; exact .inr ⟨b, rfl, rfl⟩)
  refine ⟨k, rfl, hset, ha.out.kept (fun a e => (setCell_grown w1 G _ _).block _ (ha.out.far a e).2 (fun e2 => hne'.out a e (by cases e2; rfl))), ?_⟩
  exact Fr.trans (Fr.of_below hbx.out.1) (hfg.trans hfs)

set_option maxRecDepth 100000 in
set_option maxHeartbeats 1000000 in
theorem dropWait_any (lo G n c i o : Nat) (ho : o = i * 5) (V : List QV) (v : QV) (l : List WaitD) (x : Int) (w : World) (hrow : OwnS 43 w lo (.slice (some ⟨G, 0, none⟩) n c) V) (hv : V[i]? = some v)
    (hown : OwnS 47 w lo (.slice v.wq v.wn v.wc) l) (hne : ∀ a, v.wq = some a → a.block ≠ G) (hsm : v.wn ≤ 1000000) :
    Calls Tryz.prog 62 #[.pointer (some ⟨G, o, none⟩), .int .i64 x] w (fun e w' => ∃ m, e = .returned (.tuple #[]) ∧ OwnS 43 w' lo (.slice (some ⟨G, 0, none⟩) n c) (V.set i { v with wn := m }) ∧ OwnS 47 w' lo (.slice v.wq m v.wc) (l.filter (fun a => !(a.x == x))) ∧ Fr (InQ G v.wq) w w') := by
  obtain ⟨W, hW⟩ : ∃ W, w.alloc (.cells #[.int .i64 x] 3) = W := ⟨_, rfl⟩
  have hbx := Lib.hid (one_box (xs := [.int .i64 x]) hW)
  have hrow1 := Lib.hid (hrow.below hbx.out.1)
  have hown1 := Lib.hid (hown.below hbx.out.1)
  have hfar := Lib.hid hown.far
  have hlt := Lib.hid (row_lt hrow)
  obtain ⟨q, hq⟩ : ∃ q, v.wq = q := ⟨_, rfl⟩
  obtain ⟨m, hm⟩ : ∃ m, v.wn = m := ⟨_, rfl⟩
  obtain ⟨d, hd⟩ : ∃ d, v.wc = d := ⟨_, rfl⟩
  rw [hq, hm, hd] at hown1
  rw [hq] at hfar hne
  rw [hm] at hsm
  have hc := Lib.hid (delW w.heap.size (fun a => a.x == x) q m d lo l W hown1.out hsm (fun a u hu => dropWaitFn_any a.x a.m a.h x _ u (cell_ne' hu (fun e => by cases q with
    | none => cases e
    | some b => exact absurd (show b.block = w.heap.size by simpa using e) (Nat.ne_of_lt (hfar.out b rfl).2)) (hbx.out.2.1.cell 0 rfl))))
  have p0 := Lib.hid (row_cell hrow1.out hv 4 (x := .slice q m d) (by rw [← hq, ← hm, ← hd]; rfl))
  rw [← ho] at p0
  have p1 := p0.out
  have hne' := Lib.hid hne
  have hv' := Lib.hid hv
  have ho' := Lib.hid ho
  have hq' := Lib.hid hq
  have hm' := Lib.hid hm
  have hd' := Lib.hid hd
  have hbq : W.grownBy W (q.map (·.block)) := ⟨rfl, rfl, rfl, Nat.le_refl _, fun _ _ _ => rfl⟩
  rw [hq, hd]
  clear hrow hown hne hv ho hq hm hd hbq
  go_enter Tryz.func62, Tryz.ntmps62
  go_wp2_with fail
  clear hW
  refine hc.out.mono ?_
  rintro e w1 ⟨k, rfl, h1, h2⟩
  have hg := Lib.hid h2
  have ha := Lib.hid h1
  have hqG : ∀ a, q = some a → a.block ≠ G := hne'.out
  have hr1 := Lib.hid (hrow1.out.kept (w' := w1) (fun a e => by cases e; exact hg.out.block G (by have := hrow1.out.far _ rfl; exact this.2) (fun e => by cases q with
    | none => cases e
    | some b => exact hqG b rfl (by cases e; rfl))))
  have c9 : w1.cell? ⟨G, o + 4, none⟩ = some (.slice q m d) := by rw [ho'.out]; exact row_cell hr1.out hv'.out 4 (by rw [← hq'.out, ← hm'.out, ← hd'.out]; rfl)
  have f9 : w1.frozen? ⟨G, o + 4, none⟩ = false := row_free hr1.out _
  clear h1 h2 hc p1 hqG
  go_wp2
  go_end0
  rw [ho'.out]
  have hset := row_wq (q := q) (m := k) (d := d) hr1.out hv'.out
  have hfs : Fr (InQ G q) w1 (w1.setCell ⟨G, i * 5 + 4, none⟩ (.slice q k d)) := Fr.of_set w1 _ _ (.inl rfl)
  have hfg : Fr (InQ G q) W w1 := Fr.of_grown hg.out (fun j e => by
    cases q with
    | none => cases e
    | some b => cases e; exact .inr ⟨b, rfl, rfl⟩)
  refine ⟨k, rfl, hset, ha.out.kept (fun a e => (setCell_grown w1 G _ _).block _ (ha.out.far a e).2 (fun e2 => hne'.out a e (by cases e2; rfl))), ?_⟩
  exact Fr.trans (Fr.of_below hbx.out.1) (hfg.trans hfs)
end Go.Proofs.YtbgpppbcffpdbaaGreatDoor
