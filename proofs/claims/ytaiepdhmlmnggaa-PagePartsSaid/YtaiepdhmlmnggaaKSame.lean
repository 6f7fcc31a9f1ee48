/- Same of codec. -/
import Derived.Test.YtaiepdhmlmnggaaKArg
namespace Go.Proofs.Ytaiepdhmlmnggaa
open Go.RowKit

def sameK : List KidD → List KidD → Bool
  | [], [] => true
  | a :: l, b :: m => eqKid a b && sameK l m
  | _, _ => false
theorem sameK_iff : ∀ {l m : List KidD}, sameK l m = true ↔ l = m
  | [], [] => by simp [sameK]
  | [], b :: m => by simp [sameK]
  | a :: l, [] => by simp [sameK]
  | a :: l, b :: m => by simp only [sameK, Bool.and_eq_true, eqKid_iff, sameK_iff, List.cons.injEq]
theorem sameK_of {l m : List KidD} {n : Nat} (h1 : l.length = n) (h2 : m.length = n) (h : ∀ i a b, i < n → l[i]? = some a → m[i]? = some b → eqKid a b = true) : sameK l m = true := by
  rw [sameK_iff]
  apply List.ext_getElem?
  intro i
  by_cases hi : i < n
  · have e1 : l[i]? = some (l[i]'(by omega)) := List.getElem?_eq_getElem (by omega)
    have e2 : m[i]? = some (m[i]'(by omega)) := List.getElem?_eq_getElem (by omega)
    rw [e1, e2, eqKid_iff.1 (h i _ _ hi e1 e2)]
  · rw [List.getElem?_eq_none (by omega), List.getElem?_eq_none (by omega)]
theorem sameK_ne {l m : List KidD} (h : l.length ≠ m.length) : sameK l m = false := by
  cases hs : sameK l m with
  | false => rfl
  | true => exact absurd (congrArg List.length (sameK_iff.1 hs)) h
theorem sameK_at {l m : List KidD} {i : Nat} {a b : KidD} (h1 : l[i]? = some a) (h2 : m[i]? = some b) (h : eqKid a b = false) : sameK l m = false := by
  cases hs : sameK l m with
  | false => rfl
  | true =>
    rw [sameK_iff.1 hs, h2] at h1
    cases h1
    rw [eqKid_iff.2 rfl] at h; cases h

set_option maxRecDepth 100000 in
set_option maxHeartbeats 2000000 in
theorem equalK_any (q1 : Option Addr) (n1 c1 : Nat) (l : List KidD) (q2 : Option Addr) (n2 c2 : Nat) (m : List KidD) (w : World) (h1 : KidsOn w q1 n1 c1 l) (h2 : KidsOn w q2 n2 c2 m) :
    Calls Try.prog 62 #[.slice q1 n1 c1, .slice q2 n2 c2] w (fun e w' => e = .returned (.bool (sameK l m)) ∧ Below w.heap.size w w') := by
  have k1 := Nat.le_trans h1.le h1.cap
  have k2 := Nat.le_trans h2.le h2.cap
  unfold maxLen at k1 k2
  have g1 := Lib.hid h1
  have g2 := Lib.hid h2
  clear h1 h2
  by_cases hn : n1 = n2
  · subst hn
    have hT : Hid ((∀ i a b, i < n1 → l[i]? = some a → m[i]? = some b → eqKid a b = true) → sameK l m = true) := fun h => sameK_of g1.out.len g2.out.len h
    have hF : Hid (∀ i a b, l[i]? = some a → m[i]? = some b → eqKid a b = false → sameK l m = false) := fun i a b ha hb h => sameK_at ha hb h
    obtain ⟨E, hE⟩ : ∃ E, sameK l m = E := ⟨_, rfl⟩
    rw [hE] at hT hF ⊢
    clear hE
    go_enter Try.func62, Try.ntmps62
    go_wp2
    go_loopw [13] (fun v13 wr => ∃ k : Nat, k ≤ n1 ∧ v13 = .int .i64 k ∧ Hid (Below w.heap.size w wr) ∧ Hid (∀ i a b, i < k → l[i]? = some a → m[i]? = some b → eqKid a b = true)) (fun v13 _ => n1 - (RowKit.intOf v13).toNat)
    case atStart => exact ⟨0, Nat.zero_le _, rfl, (show Below _ _ _ from Below.refl _ _), fun i a b hi => by omega⟩
    case round =>
      obtain ⟨k, hk, rfl, hb, hp⟩ := hrel
      by_cases hlt : k < n1
      · obtain ⟨A, ⟨⟨at_, ai⟩, av⟩, hqA, hx, hokA, hcA⟩ := (g1.out.below hb.out (Nat.le_refl _)).at hlt
        obtain ⟨B, ⟨⟨bt, bi⟩, bv⟩, hqB, hy, hokB, hcB⟩ := (g2.out.below hb.out (Nat.le_refl _)).at hlt
        subst hqA
        subst hqB
        have p0 : wr.cell? (A.add (k * 3)) = some (.int .i64 at_) := by have h := hcA 0 _ rfl; rwa [add0] at h
        have p1 : wr.cell? ⟨(A.add (k * 3)).block, (A.add (k * 3)).off + 1, none⟩ = some (.int .u16 ai) := hcA 1 _ rfl
        have p2 : wr.cell? ⟨(A.add (k * 3)).block, (A.add (k * 3)).off + 2, none⟩ = some (.int .i64 av) := hcA 2 _ rfl
        have q0 : wr.cell? (B.add (k * 3)) = some (.int .i64 bt) := by have h := hcB 0 _ rfl; rwa [add0] at h
        have q1 : wr.cell? ⟨(B.add (k * 3)).block, (B.add (k * 3)).off + 1, none⟩ = some (.int .u16 bi) := hcB 1 _ rfl
        have q2 : wr.cell? ⟨(B.add (k * 3)).block, (B.add (k * 3)).off + 2, none⟩ = some (.int .i64 bv) := hcB 2 _ rfl
        have hx' := Lib.hid hx
        have hy' := Lib.hid hy
        have i0 : (0 : Int) ≤ k := by omega
        have i1 : (k : Int) < n1 := by omega
        clear hx hy hokA hokB hcA hcB
        have hne := fun u => neq_kid u at_ ai av bt bi bv
        obtain ⟨b, hbv⟩ : ∃ b, eqKid ⟨⟨at_, ai⟩, av⟩ ⟨⟨bt, bi⟩, bv⟩ = b := ⟨_, rfl⟩
        rw [hbv] at hne
        have hbv' := Lib.hid hbv
        clear hbv
        cases b with
        | true =>
          go_wp2
          go_quiet (fail)
          clear hne p0 p1 p2 q0 q1 q2
          go_wp2
          go_roundw
          case rel =>
            refine ⟨k + 1, by omega, by go_num, (show Below _ _ _ from hb.out.trans ((below_drewN _ _).mono hb.out.size)), fun i a b hi ha hb2 => ?_⟩
            rcases Nat.lt_or_ge i k with h | h
            · exact hp.out i a b h ha hb2
            · obtain rfl : i = k := by omega
              rw [hx'.out] at ha; rw [hy'.out] at hb2
              cases ha; cases hb2
              exact hbv'.out
          case measure => simp [RowKit.intOf]; omega
        | false =>
          go_wp2
          go_quiet (fail)
          clear hne p0 p1 p2 q0 q1 q2
          go_wp2
          go_ret
          exact ⟨by rw [hF.out k _ _ hx'.out hy'.out hbv'.out]; rfl, hb.out.trans ((below_drewN _ _).mono hb.out.size)⟩
      · obtain rfl : n1 = k := by omega
        go_wp2
        go_ret
        exact ⟨by rw [hT.out hp.out]; rfl, hb.out⟩
  · have hs : sameK l m = false := sameK_ne (by rw [g1.out.len, g2.out.len]; exact hn)
    rw [hs]
    clear hs
    have hn1 : ¬ (n1 : Int) = n2 := by omega
    have hn2 : decide (n1 = n2) = false := decide_eq_false hn
    go_enter Try.func62, Try.ntmps62
    go_wp2
    go_ret
    exact ⟨rfl, Below.refl _ _⟩


def sameC (a b : ContD) : Bool := (a.kind == b.kind && sameL a.rows b.rows) && sameK a.kids b.kids
theorem sameC_iff {a b : ContD} : sameC a b = true ↔ a = b := by
  obtain ⟨ak, ar, ad⟩ := a
  obtain ⟨bk, br, bd⟩ := b
  unfold sameC
  rw [Bool.and_eq_true, Bool.and_eq_true, sameL_iff, sameK_iff, beq_iff_eq]
  constructor
  · rintro ⟨⟨h1, h2⟩, h3⟩
    have h1' : ak = bk := h1
    have h2' : ar = br := h2
    have h3' : ad = bd := h3
    rw [h1', h2', h3']
  · intro h
    cases h
    exact ⟨⟨rfl, rfl⟩, rfl⟩

set_option maxRecDepth 100000 in
set_option maxHeartbeats 4000000 in
theorem same_c (k1 : Int) (rq1 : Option Addr) (rn1 rc1 : Nat) (kq1 : Option Addr) (kn1 kc1 : Nat) (a : ContD) (k2 : Int) (rq2 : Option Addr) (rn2 rc2 : Nat) (kq2 : Option Addr) (kn2 kc2 : Nat) (b : ContD) (w : World) (h1 : ContOn w k1 rq1 rn1 rc1 kq1 kn1 kc1 a) (h2 : ContOn w k2 rq2 rn2 rc2 kq2 kn2 kc2 b) :
    Calls Try.prog 32 #[.agg #[.int .i64 k1, .slice rq1 rn1 rc1, .slice kq1 kn1 kc1], .agg #[.int .i64 k2, .slice rq2 rn2 rc2, .slice kq2 kn2 kc2]] w (fun e w' => e = .returned (.bool (sameC a b)) ∧ Below w.heap.size w w') := by
  obtain ⟨W, hW⟩ : ∃ W, (w.alloc (.cells #[.int .i64 k1, .slice rq1 rn1 rc1, .slice kq1 kn1 kc1] 25)).alloc (.cells #[.int .i64 k2, .slice rq2 rn2 rc2, .slice kq2 kn2 kc2] 25) = W := ⟨_, rfl⟩
  have hbx := Lib.hid (two_boxes (xs := [.int .i64 k1, .slice rq1 rn1 rc1, .slice kq1 kn1 kc1]) (ys := [.int .i64 k2, .slice rq2 rn2 rc2, .slice kq2 kn2 kc2]) hW)
  have c0 := hbx.out.2.1.cell 0 rfl
  have c1 := hbx.out.2.1.cell 1 rfl
  have d0 := hbx.out.2.2.1.cell 0 rfl
  have d1 := hbx.out.2.2.1.cell 1 rfl
  have hr := Lib.hid (same_any rq1 rn1 rc1 a.rows rq2 rn2 rc2 b.rows W (h1.rows.below hbx.out.1 (Nat.le_refl _)) (h2.rows.below hbx.out.1 (Nat.le_refl _)))
  have hk := Lib.hid (fun u (hu : Below W.heap.size W u) => equalK_any kq1 kn1 kc1 a.kids kq2 kn2 kc2 b.kids u ((h1.kids.below hbx.out.1 (Nat.le_refl _)).below hu (Nat.le_refl _)) ((h2.kids.below hbx.out.1 (Nat.le_refl _)).below hu (Nat.le_refl _)))
  obtain ⟨E, hE⟩ : ∃ E, sameL a.rows b.rows = E := ⟨_, rfl⟩
  obtain ⟨F, hF⟩ : ∃ F, sameK a.kids b.kids = F := ⟨_, rfl⟩
  rw [hE] at hr
  rw [hF] at hk
  have hs : Hid (sameC a b = ((k1 == k2 && E) && F)) := by show sameC a b = _; unfold sameC; rw [hE, hF, ← h1.kind, ← h2.kind]
  rw [hs.out]
  clear h1 h2 hE hF hs
  by_cases hkk : k1 = k2
  · subst hkk
    rw [beq_self_eq_true]
    cases E with
    | true =>
      go_enter Try.func32, Try.ntmps32
      go_wp2_with fail
      clear hW
      refine hr.out.mono ?_
      clear hr
      rintro e w1 ⟨rfl, hb1⟩
      have hd := Lib.hid hb1
      have e2 := (hbx.out.2.1.below hb1 (Nat.le_refl _)).cell 2 rfl
      have f2 := (hbx.out.2.2.1.below hb1 (Nat.le_refl _)).cell 2 rfl
      clear hb1 c0 c1 d0 d1
      go_wp2_with fail
      refine (hk.out w1 hd.out).mono ?_
      clear hk e2 f2
      rintro e w2 ⟨rfl, hb2⟩
      have hd2 := Lib.hid (hd.out.trans (hb2.mono hd.out.size))
      clear hb2
      cases F with
      | true =>
        go_wp2
        go_ret
        exact ⟨rfl, hbx.out.1.trans (hd2.out.mono hbx.out.1.size)⟩
      | false =>
        go_wp2
        go_ret
        exact ⟨rfl, hbx.out.1.trans (hd2.out.mono hbx.out.1.size)⟩
    | false =>
      go_enter Try.func32, Try.ntmps32
      go_wp2_with fail
      clear hW
      refine hr.out.mono ?_
      clear hr
      rintro e w1 ⟨rfl, hb1⟩
      have hd := Lib.hid hb1
      clear hb1 c0 c1 d0 d1 hk
      go_wp2
      go_ret
      exact ⟨rfl, hbx.out.1.trans (hd.out.mono hbx.out.1.size)⟩
  · have hk2 : (k1 == k2) = false := by simpa using hkk
    rw [hk2]
    clear hr hk
    go_enter Try.func32, Try.ntmps32
    go_wp2
    go_ret
    exact ⟨rfl, hbx.out.1⟩
end Go.Proofs.Ytaiepdhmlmnggaa
