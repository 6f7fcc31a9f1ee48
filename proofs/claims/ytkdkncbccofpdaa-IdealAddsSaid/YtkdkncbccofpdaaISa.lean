/- Same and SameAnswer of ideal. -/
import Derived.Test.YtkdkncbccofpdaaIOv
namespace Go.Proofs.Ytkdkncbccofpdaa
open Go.RowKit

section
variable {α : Type} (f : α → α → Bool)
/-- two lists that are the same, one by one -/
def sameG : List α → List α → Bool
  | [], [] => true
  | a :: l, b :: m => f a b && sameG l m
  | _, _ => false
theorem sameG_of : ∀ {l m : List α} {n : Nat}, l.length = n → m.length = n → (∀ i a b, i < n → l[i]? = some a → m[i]? = some b → f a b = true) → sameG f l m = true
  | [], [], _, _, _, _ => rfl
  | [], b :: m, n, h1, h2, _ => by simp at h1 h2; omega
  | a :: l, [], n, h1, h2, _ => by simp at h1 h2; omega
  | a :: l, b :: m, n, h1, h2, h => by
    obtain ⟨k, rfl⟩ : ∃ k, n = k + 1 := ⟨l.length, by simpa using h1.symm⟩
    unfold sameG
    rw [h 0 a b (by omega) rfl rfl, Bool.true_and]
    exact sameG_of (by simpa using h1) (by simpa using h2) (fun i x y hi hx hy => h (i + 1) x y (by omega) (by simpa using hx) (by simpa using hy))
theorem sameG_ne : ∀ {l m : List α}, l.length ≠ m.length → sameG f l m = false
  | [], [], h => absurd rfl h
  | [], b :: m, _ => rfl
  | a :: l, [], _ => rfl
  | a :: l, b :: m, h => by
    unfold sameG
    rw [sameG_ne (by simpa using h), Bool.and_false]
theorem sameG_at : ∀ {l m : List α} {i : Nat} {a b : α}, l[i]? = some a → m[i]? = some b → f a b = false → sameG f l m = false
  | [], _, i, a, b, h1, _, _ => by simp at h1
  | _ :: _, [], i, a, b, _, h2, _ => by simp at h2
  | x :: l, y :: m, 0, a, b, h1, h2, h => by
    simp at h1 h2
    subst h1 h2
    unfold sameG
    rw [h, Bool.false_and]
  | x :: l, y :: m, i + 1, a, b, h1, h2, h => by
    unfold sameG
    rw [sameG_at (by simpa using h1) (by simpa using h2) h, Bool.and_false]
theorem sameG_iff (hf : ∀ a b, f a b = true ↔ a = b) : ∀ {l m : List α}, sameG f l m = true ↔ l = m
  | [], [] => by simp [sameG]
  | [], b :: m => by simp [sameG]
  | a :: l, [] => by simp [sameG]
  | a :: l, b :: m => by simp only [sameG, Bool.and_eq_true, hf, sameG_iff hf, List.cons.injEq]
end
def eqBd (a b : BdD) : Bool := a.lo == b.lo && a.hi == b.hi
theorem eqBd_iff (x y : BdD) : eqBd x y = true ↔ x = y := by
  obtain ⟨a, b⟩ := x
  obtain ⟨c, d⟩ := y
  simp [eqBd]

set_option maxRecDepth 100000 in
theorem neq_bd (w : World) (a b c d : Int) : (binOp .neq 75 (.agg #[.int .i64 a, .int .i64 b]) (.agg #[.int .i64 c, .int .i64 d])).run Try.prog w = .ok (.bool (!eqBd ⟨a, b⟩ ⟨c, d⟩)) w := by
  rw [run_neq_struct]
  have hS : Try.prog.underlying 75 = some (.struct (Try.prog.fieldsOf 75)) := by kernel_rfl
  have hp : Try.prog.stoodInHeld 75 = false := by kernel_rfl
  have u3 := Try.underlying2
  have a3 := Try.isAgg2
  have z3 := Try.sizeOf2
  rw [show (10000 : Nat) = 9999 + 1 from rfl, run_equalIn_agg w 9999 75 _ _ hS hp]
  simp only [Program.fieldsOf, Try.underlying75]
  clear hS hp
  unfold eqBd
  go_simp
  by_cases h1 : a = c <;> by_cases h2 : b = d <;> simp [h1, h2]

set_option maxRecDepth 100000 in
set_option maxHeartbeats 2000000 in
theorem equalB_any (q1 : Option Addr) (n1 c1 : Nat) (l : List BdD) (q2 : Option Addr) (n2 c2 : Nat) (m : List BdD) (w : World) (h1 : SlOn w q1 n1 c1 l) (h2 : SlOn w q2 n2 c2 m) :
    Calls Try.prog 51 #[.slice q1 n1 c1, .slice q2 n2 c2] w (fun e w' => e = .returned (.bool (sameG eqBd l m)) ∧ Below w.heap.size w w') := by
  have k1 := Nat.le_trans h1.le h1.cap
  have k2 := Nat.le_trans h2.le h2.cap
  unfold maxLen at k1 k2
  have g1 := Lib.hid h1
  have g2 := Lib.hid h2
  clear h1 h2
  by_cases hn : n1 = n2
  · subst hn
    have hT : Hid ((∀ i a b, i < n1 → l[i]? = some a → m[i]? = some b → eqBd a b = true) → sameG eqBd l m = true) := fun h => sameG_of eqBd g1.out.len g2.out.len h
    have hF : Hid (∀ i a b, l[i]? = some a → m[i]? = some b → eqBd a b = false → sameG eqBd l m = false) := fun i a b ha hb h => sameG_at eqBd ha hb h
    obtain ⟨E, hE⟩ : ∃ E, sameG eqBd l m = E := ⟨_, rfl⟩
    rw [hE] at hT hF ⊢
    clear hE
    go_enter Try.func51, Try.ntmps51
    go_wp2
    go_loopw [13] (fun v13 wr => ∃ k : Nat, k ≤ n1 ∧ v13 = .int .i64 k ∧ Hid (Below w.heap.size w wr) ∧ Hid (∀ i a b, i < k → l[i]? = some a → m[i]? = some b → eqBd a b = true)) (fun v13 _ => n1 - (Go.RowKit.intOf v13).toNat)
    case atStart => exact ⟨0, Nat.zero_le _, rfl, (show Below _ _ _ from Below.refl _ _), fun i a b hi => by omega⟩
    case round =>
      obtain ⟨k, hk, rfl, hb, hp⟩ := hrel
      by_cases hlt : k < n1
      · obtain ⟨A, ⟨at_, ai⟩, hqA, hx, hcA⟩ := (g1.out.below hb.out (Nat.le_refl _)).at hlt
        obtain ⟨B, ⟨bt, bi⟩, hqB, hy, hcB⟩ := (g2.out.below hb.out (Nat.le_refl _)).at hlt
        subst hqA
        subst hqB
        have p0 : wr.cell? (A.add (k * 2)) = some (.int .i64 at_) := by have h := hcA 0 _ rfl; rwa [add0] at h
        have p1 : wr.cell? ⟨(A.add (k * 2)).block, (A.add (k * 2)).off + 1, none⟩ = some (.int .i64 ai) := hcA 1 _ rfl
        have q0 : wr.cell? (B.add (k * 2)) = some (.int .i64 bt) := by have h := hcB 0 _ rfl; rwa [add0] at h
        have q1 : wr.cell? ⟨(B.add (k * 2)).block, (B.add (k * 2)).off + 1, none⟩ = some (.int .i64 bi) := hcB 1 _ rfl
        have hx' := Lib.hid hx
        have hy' := Lib.hid hy
        have i0 : (0 : Int) ≤ k := by omega
        have i1 : (k : Int) < n1 := by omega
        clear hx hy hcA hcB
        have hne := fun u => neq_bd u at_ ai bt bi
        obtain ⟨b, hbv⟩ : ∃ b, eqBd ⟨at_, ai⟩ ⟨bt, bi⟩ = b := ⟨_, rfl⟩
        rw [hbv] at hne
        have hbv' := Lib.hid hbv
        clear hbv
        cases b with
        | true =>
          go_wp2
          go_quiet (fail)
          clear hne p0 p1 q0 q1
          go_wp2
          go_roundw
          case rel =>
            refine ⟨k + 1, by omega, by go_num, (show Below _ _ _ from hb.out.trans ((below_drewN _ _).mono hb.out.size)), fun i a b hi ha hb2 => ?_⟩
            rcases Nat.lt_or_ge i k with h | h
            · exact hp.out i a b h ha hb2
            · obtain rfl : i = k := by omega
              rw [hx'.out] at ha; rw [hy'.out] at hb2
              cases ha; cases hb2
              exact hbv'.out
          case measure => simp [Go.RowKit.intOf]; omega
        | false =>
          go_wp2
          go_quiet (fail)
          clear hne p0 p1 q0 q1
          go_wp2
          go_ret
          exact ⟨by rw [hF.out k _ _ hx'.out hy'.out hbv'.out]; rfl, hb.out.trans ((below_drewN _ _).mono hb.out.size)⟩
      · obtain rfl : n1 = k := by omega
        go_wp2
        go_ret
        exact ⟨by rw [hT.out hp.out]; rfl, hb.out⟩
  · have hs : sameG eqBd l m = false := sameG_ne eqBd (by rw [g1.out.len, g2.out.len]; exact hn)
    rw [hs]
    clear hs
    have hn1 : ¬ (n1 : Int) = n2 := by omega
    have hn2 : decide (n1 = n2) = false := decide_eq_false hn
    go_enter Try.func51, Try.ntmps51
    go_wp2
    go_ret
    exact ⟨rfl, Below.refl _ _⟩

set_option maxRecDepth 100000 in
set_option maxHeartbeats 2000000 in
theorem equalM_any (q1 : Option Addr) (n1 c1 : Nat) (L : List (List RowD)) (q2 : Option Addr) (n2 c2 : Nat) (M : List (List RowD)) (w : World) (h1 : MksOn w q1 n1 c1 L) (h2 : MksOn w q2 n2 c2 M) :
    Calls Try.prog 52 #[.slice q1 n1 c1, .slice q2 n2 c2, .func (.func 29) #[] #[]] w (RqPost (sameG sameL L M) w) := by
  have hl1 := Lib.hid h1.len
  have hl2 := Lib.hid h2.len
  obtain ⟨vs, hv1, hv2, hv3⟩ := h1
  obtain ⟨us, hu1, hu2, hu3⟩ := h2
  have k1 := Nat.le_trans hv1.le hv1.cap
  have k2 := Nat.le_trans hu1.le hu1.cap
  unfold maxLen at k1 k2
  have g1 := Lib.hid hv1
  have g2 := Lib.hid hu1
  have e1 := Lib.hid hv3
  have e2 := Lib.hid hu3
  have m1 := Lib.hid hv2
  have m2 := Lib.hid hu2
  clear hv1 hv2 hv3 hu1 hu2 hu3
  by_cases hn : n1 = n2
  · subst hn
    have hT : Hid ((∀ i a b, i < n1 → L[i]? = some a → M[i]? = some b → sameL a b = true) → sameG sameL L M = true) := fun h => sameG_of sameL hl1.out hl2.out h
    have hF : Hid (∀ i a b, L[i]? = some a → M[i]? = some b → sameL a b = false → sameG sameL L M = false) := fun i a b ha hb h => sameG_at sameL ha hb h
    obtain ⟨E, hE⟩ : ∃ E, sameG sameL L M = E := ⟨_, rfl⟩
    rw [hE] at hT hF ⊢
    clear hE
    go_enter Try.func52, Try.ntmps52
    go_wp2
    go_loopw [17] (fun v17 wr => ∃ k : Nat, k ≤ n1 ∧ v17 = .int .i64 k ∧ Hid (Below w.heap.size w wr) ∧ Hid (∀ i a b, i < k → L[i]? = some a → M[i]? = some b → sameL a b = true)) (fun v17 _ => n1 - (Go.RowKit.intOf v17).toNat)
    case atStart => exact ⟨0, Nat.zero_le _, rfl, (show Below _ _ _ from Below.refl _ _), fun i a b hi => by omega⟩
    case round =>
      obtain ⟨k, hk, rfl, hb, hp⟩ := hrel
      by_cases hlt : k < n1
      · obtain ⟨A, ⟨aq, an, ac⟩, hqA, hx, hcA⟩ := (g1.out.below hb.out (Nat.le_refl _)).at hlt
        obtain ⟨B, ⟨bq, bn, bc⟩, hqB, hy, hcB⟩ := (g2.out.below hb.out (Nat.le_refl _)).at hlt
        subst hqA
        subst hqB
        obtain ⟨a, ha⟩ : ∃ a, L[k]? = some a := ⟨_, List.getElem?_eq_getElem (by have := hl1.out; omega)⟩
        obtain ⟨b, hb2⟩ : ∃ b, M[k]? = some b := ⟨_, List.getElem?_eq_getElem (by have := hl2.out; omega)⟩
        have ra := Lib.hid ((e1.out k _ a hx ha).below hb.out (Nat.le_refl _))
        have rb := Lib.hid ((e2.out k _ b hy hb2).below hb.out (Nat.le_refl _))
        have p0 : wr.cell? (A.add k) = some (.slice aq an ac) := by have h := hcA 0 _ rfl; rw [add0, show Cel.sz SlV = 1 from rfl, Nat.mul_one] at h; exact h
        have q0 : wr.cell? (B.add k) = some (.slice bq bn bc) := by have h := hcB 0 _ rfl; rw [add0, show Cel.sz SlV = 1 from rfl, Nat.mul_one] at h; exact h
        have ha' := Lib.hid ha
        have hb' := Lib.hid hb2
        clear hx hy hcA hcB ha hb2
        go_wp2_with fail
        clear p0 q0
        refine (same_any aq an ac a bq bn bc b wr ra.out rb.out).mono ?_
        rintro e w5 ⟨rfl, hbb⟩
        have hb5 := Lib.hid (hb.out.trans (hbb.mono hb.out.size))
        clear hbb
        obtain ⟨C, hC⟩ : ∃ C, sameL a b = C := ⟨_, rfl⟩
        rw [hC]
        have hC' := Lib.hid hC
        clear hC
        cases C with
        | true =>
          go_wp2
          go_roundw
          case rel =>
            refine ⟨k + 1, by omega, by go_num, hb5, fun i x y hi hx hy => ?_⟩
            rcases Nat.lt_or_ge i k with h | h
            · exact hp.out i x y h hx hy
            · obtain rfl : i = k := by omega
              rw [ha'.out] at hx; rw [hb'.out] at hy
              cases hx; cases hy
              exact hC'.out
          case measure => simp [Go.RowKit.intOf]; omega
        | false =>
          go_wp2
          go_ret
          exact ⟨by rw [hF.out k _ _ ha'.out hb'.out hC'.out]; rfl, hb5.out⟩
      · obtain rfl : n1 = k := by omega
        go_wp2
        go_ret
        exact ⟨by rw [hT.out hp.out]; rfl, hb.out⟩
  · have hs : sameG sameL L M = false := sameG_ne sameL (by rw [hl1.out, hl2.out]; exact hn)
    rw [hs]
    clear hs
    have hn1 : ¬ (n1 : Int) = n2 := by omega
    have hn2 : decide (n1 = n2) = false := decide_eq_false hn
    go_enter Try.func52, Try.ntmps52
    go_wp2
    go_ret
    exact ⟨rfl, Below.refl _ _⟩

def serSame (x y : SerD) : Bool := sameG eqBd x.bs y.bs && (sameL x.rows y.rows && (sameL x.begun y.begun && (sameG sameL x.marks y.marks && (x.over == y.over))))
theorem serSame_iff {x y : SerD} : serSame x y = true ↔ x = y := by
  obtain ⟨a, b, c, d, e⟩ := x
  obtain ⟨a', b', c', d', e'⟩ := y
  unfold serSame
  simp only [Bool.and_eq_true, sameG_iff eqBd eqBd_iff, sameL_iff, sameG_iff sameL (fun _ _ => sameL_iff), beq_iff_eq, SerD.mk.injEq]
set_option maxRecDepth 100000 in
set_option maxHeartbeats 4000000 in
theorem sameI_any (tq : Option Addr) (tn tc : Nat) (rq : Option Addr) (rn rc : Nat) (bq : Option Addr) (bn bc : Nat) (mq : Option Addr) (mn mc : Nat) (o : Bool) (ptq : Option Addr) (ptn ptc : Nat) (prq : Option Addr) (prn prc : Nat) (pbq : Option Addr) (pbn pbc : Nat) (pmq : Option Addr) (pmn pmc : Nat) (po : Bool) (x y : SerD) (w : World) (hx : (⟨tq, tn, tc, rq, rn, rc, bq, bn, bc, mq, mn, mc, o⟩ : SV).On w x) (hy : (⟨ptq, ptn, ptc, prq, prn, prc, pbq, pbn, pbc, pmq, pmn, pmc, po⟩ : SV).On w y) :
    Calls Try.prog 26 #[.agg #[.slice tq tn tc, .slice rq rn rc, .slice bq bn bc, .slice mq mn mc, .bool o], .agg #[.slice ptq ptn ptc, .slice prq prn prc, .slice pbq pbn pbc, .slice pmq pmn pmc, .bool po]] w (RqPost (serSame x y) w) := by
  obtain ⟨W, hW⟩ : ∃ W, (w.alloc (.cells #[.slice tq tn tc, .slice rq rn rc, .slice bq bn bc, .slice mq mn mc, .bool o] 46)).alloc (.cells #[.slice ptq ptn ptc, .slice prq prn prc, .slice pbq pbn pbc, .slice pmq pmn pmc, .bool po] 46) = W := ⟨_, rfl⟩
  have hbx := Lib.hid (two_rowsI (xs := [.slice tq tn tc, .slice rq rn rc, .slice bq bn bc, .slice mq mn mc, .bool o]) (ys := [.slice ptq ptn ptc, .slice prq prn prc, .slice pbq pbn pbc, .slice pmq pmn pmc, .bool po]) hW)
  have b0 := Lib.hid hbx.out.1
  have s0 := Lib.hid hbx.out.2.1
  have r0 := Lib.hid hbx.out.2.2.1
  have hx0 := Lib.hid (hx.below b0.out (Nat.le_refl _))
  have hy0 := Lib.hid (hy.below b0.out (Nat.le_refl _))
  have ho : Hid (serSame x y = (sameG eqBd x.bs y.bs && (sameL x.rows y.rows && (sameL x.begun y.begun && (sameG sameL x.marks y.marks && (o == po)))))) := by show _ = _; unfold serSame; rw [show x.over = o from hx.over.symm, show y.over = po from hy.over.symm]
  clear hx hy hbx
  go_enter Try.func26, Try.ntmps26
  have y0 : W.cell? ⟨w.heap.size, 0, none⟩ = some (.slice tq tn tc) := s0.out.cell 0
  have y1 : W.cell? ⟨w.heap.size + 1, 0, none⟩ = some (.slice ptq ptn ptc) := r0.out.cell 0
  go_wp2_with fail
  clear y0 y1 hW
  refine (equalB_any tq tn tc x.bs ptq ptn ptc y.bs W hx0.out.sch hy0.out.sch).mono ?_
  rintro e u1 ⟨rfl, hb⟩
  have s1 := Lib.hid (s0.out.below hb)
  have r1 := Lib.hid (r0.out.below hb)
  have hx1 := Lib.hid (hx0.out.below hb (Nat.le_refl _))
  have hy1 := Lib.hid (hy0.out.below hb (Nat.le_refl _))
  have b1 := Lib.hid (b0.out.trans (hb.mono b0.out.size))
  clear hb s0 r0 hx0 hy0 b0
  obtain ⟨B, hB⟩ : ∃ B, sameG eqBd x.bs y.bs = B := ⟨_, rfl⟩
  rw [hB]
  rw [hB] at ho
  clear hB
  cases B with
  | false =>
    have hf : Hid (serSame x y = false) := by show _ = _; rw [ho.out]; simp
    clear ho
    go_wp2
    go_ret
    exact ⟨by rw [hf.out]; rfl, b1.out⟩
  | true =>
    have y0 : u1.cell? ⟨w.heap.size, 1, none⟩ = some (.slice rq rn rc) := s1.out.cell 1
    have y1 : u1.cell? ⟨w.heap.size + 1, 1, none⟩ = some (.slice prq prn prc) := r1.out.cell 1
    go_wp2_with fail
    clear y0 y1
    refine (same_any rq rn rc x.rows prq prn prc y.rows u1 hx1.out.rows hy1.out.rows).mono ?_
    rintro e u2 ⟨rfl, hb⟩
    have s2 := Lib.hid (s1.out.below hb)
    have r2 := Lib.hid (r1.out.below hb)
    have hx2 := Lib.hid (hx1.out.below hb (Nat.le_refl _))
    have hy2 := Lib.hid (hy1.out.below hb (Nat.le_refl _))
    have b2 := Lib.hid (b1.out.trans (hb.mono b1.out.size))
    clear hb s1 r1 hx1 hy1 b1
    obtain ⟨B, hB⟩ : ∃ B, sameL x.rows y.rows = B := ⟨_, rfl⟩
    rw [hB]
    rw [hB] at ho
    clear hB
    cases B with
    | false =>
      have hf : Hid (serSame x y = false) := by show _ = _; rw [ho.out]; simp
      clear ho
      go_wp2
      go_ret
      exact ⟨by rw [hf.out]; rfl, b2.out⟩
    | true =>
      have y0 : u2.cell? ⟨w.heap.size, 2, none⟩ = some (.slice bq bn bc) := s2.out.cell 2
      have y1 : u2.cell? ⟨w.heap.size + 1, 2, none⟩ = some (.slice pbq pbn pbc) := r2.out.cell 2
      go_wp2_with fail
      clear y0 y1
      refine (same_any bq bn bc x.begun pbq pbn pbc y.begun u2 hx2.out.begun hy2.out.begun).mono ?_
      rintro e u3 ⟨rfl, hb⟩
      have s3 := Lib.hid (s2.out.below hb)
      have r3 := Lib.hid (r2.out.below hb)
      have hx3 := Lib.hid (hx2.out.below hb (Nat.le_refl _))
      have hy3 := Lib.hid (hy2.out.below hb (Nat.le_refl _))
      have b3 := Lib.hid (b2.out.trans (hb.mono b2.out.size))
      clear hb s2 r2 hx2 hy2 b2
      obtain ⟨B, hB⟩ : ∃ B, sameL x.begun y.begun = B := ⟨_, rfl⟩
      rw [hB]
      rw [hB] at ho
      clear hB
      cases B with
      | false =>
        have hf : Hid (serSame x y = false) := by show _ = _; rw [ho.out]; simp
        clear ho
        go_wp2
        go_ret
        exact ⟨by rw [hf.out]; rfl, b3.out⟩
      | true =>
        have y0 : u3.cell? ⟨w.heap.size, 3, none⟩ = some (.slice mq mn mc) := s3.out.cell 3
        have y1 : u3.cell? ⟨w.heap.size + 1, 3, none⟩ = some (.slice pmq pmn pmc) := r3.out.cell 3
        go_wp2_with fail
        clear y0 y1
        refine (equalM_any mq mn mc x.marks pmq pmn pmc y.marks u3 hx3.out.marks hy3.out.marks).mono ?_
        rintro e u4 ⟨rfl, hb⟩
        have s4 := Lib.hid (s3.out.below hb)
        have r4 := Lib.hid (r3.out.below hb)
        have hx4 := Lib.hid (hx3.out.below hb (Nat.le_refl _))
        have hy4 := Lib.hid (hy3.out.below hb (Nat.le_refl _))
        have b4 := Lib.hid (b3.out.trans (hb.mono b3.out.size))
        clear hb s3 r3 hx3 hy3 b3
        obtain ⟨B, hB⟩ : ∃ B, sameG sameL x.marks y.marks = B := ⟨_, rfl⟩
        rw [hB]
        rw [hB] at ho
        clear hB
        cases B with
        | false =>
          have hf : Hid (serSame x y = false) := by show _ = _; rw [ho.out]; simp
          clear ho
          go_wp2
          go_ret
          exact ⟨by rw [hf.out]; rfl, b4.out⟩
        | true =>
          have y0 : u4.cell? ⟨w.heap.size, 4, none⟩ = some (.bool o) := s4.out.cell 4
          have y1 : u4.cell? ⟨w.heap.size + 1, 4, none⟩ = some (.bool po) := r4.out.cell 4
          have hf : Hid (serSame x y = (o == po)) := by show _ = _; rw [ho.out]; simp
          clear ho
          go_wp2
          go_ret
          exact ⟨by rw [hf.out]; rfl, b4.out⟩
end Go.Proofs.Ytkdkncbccofpdaa
