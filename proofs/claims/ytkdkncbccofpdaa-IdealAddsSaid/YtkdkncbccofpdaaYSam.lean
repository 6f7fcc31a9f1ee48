/- Same of row, slices.Equal of rows, and Same of the document. -/
import Derived.Test.YtkdkncbccofpdaaYOvr
namespace Go.Proofs.Ytkdkncbccofpdaa
open Go.RowKit

def eqR (a b : RowD) : Bool := a.key.t == b.key.t && (a.key.id == b.key.id && (a.val == b.val && a.note.toList == b.note.toList))
theorem bytes_inj {a b : ByteArray} (h : a.toList = b.toList) : a = b := by
  rw [ByteArray.toList_eq, ByteArray.toList_eq] at h
  cases a; cases b
  simp at h
  rw [h]
theorem eqR_iff {a b : RowD} : eqR a b = true ↔ a = b := by
  unfold eqR
  constructor
  · intro h
    simp only [Bool.and_eq_true, beq_iff_eq] at h
    obtain ⟨h1, h2, h3, h4⟩ := h
    obtain ⟨⟨at_, ai⟩, av, an⟩ := a
    obtain ⟨⟨bt, bi⟩, bv, bn⟩ := b
    simp only at h1 h2 h3 h4
    subst h1 h2 h3
    rw [bytes_inj h4]
  · rintro rfl; simp
def sameL : List RowD → List RowD → Bool
  | [], [] => true
  | a :: l, b :: m => eqR a b && sameL l m
  | _, _ => false
theorem sameL_iff : ∀ {l m : List RowD}, sameL l m = true ↔ l = m
  | [], [] => by simp [sameL]
  | [], b :: m => by simp [sameL]
  | a :: l, [] => by simp [sameL]
  | a :: l, b :: m => by simp only [sameL, Bool.and_eq_true, eqR_iff, sameL_iff, List.cons.injEq]
theorem sameL_of {l m : List RowD} {n : Nat} (h1 : l.length = n) (h2 : m.length = n) (h : ∀ i a b, i < n → l[i]? = some a → m[i]? = some b → eqR a b = true) : sameL l m = true := by
  rw [sameL_iff]
  apply List.ext_getElem?
  intro i
  by_cases hi : i < n
  · have e1 : l[i]? = some (l[i]'(by omega)) := List.getElem?_eq_getElem (by omega)
    have e2 : m[i]? = some (m[i]'(by omega)) := List.getElem?_eq_getElem (by omega)
    rw [e1, e2, eqR_iff.1 (h i _ _ hi e1 e2)]
  · rw [List.getElem?_eq_none (by omega), List.getElem?_eq_none (by omega)]
theorem sameL_ne {l m : List RowD} (h : l.length ≠ m.length) : sameL l m = false := by
  cases hs : sameL l m with
  | false => rfl
  | true => exact absurd (congrArg List.length (sameL_iff.1 hs)) h
theorem sameL_at {l m : List RowD} {i : Nat} {a b : RowD} (h1 : l[i]? = some a) (h2 : m[i]? = some b) (h : eqR a b = false) : sameL l m = false := by
  cases hs : sameL l m with
  | false => rfl
  | true =>
    rw [sameL_iff.1 hs, h2] at h1
    cases h1
    rw [eqR_iff.2 rfl] at h; cases h

theorem equal_key (w : World) (a b c d : Int) : (Op.equalIn 9999 28 (.agg #[.int .i64 a, .int .u16 b]) (.agg #[.int .i64 c, .int .u16 d])).run Try.prog w = .ok (a == c && b == d) w := by
  have hS : Try.prog.underlying 28 = some (.struct (Try.prog.fieldsOf 28)) := by kernel_rfl
  have hp : Try.prog.stoodInHeld 28 = false := by kernel_rfl
  have u3 := Try.underlying3
  have u4 := Try.underlying26
  have a3 := Try.isAgg3
  have a4 := Try.isAgg26
  have z3 := Try.sizeOf3
  have z4 := Try.sizeOf26
  rw [show (9999 : Nat) = 9998 + 1 from rfl, run_equalIn_agg w 9998 28 _ _ hS hp]
  simp only [Program.fieldsOf, Try.underlying28]
  clear hS hp
  go_simp
  by_cases h1 : a = c <;> by_cases h2 : b = d <;> simp [h1, h2]

theorem neq_row (w : World) (a b c : Int) (s : ByteArray) (d e f : Int) (u : ByteArray) : (binOp .neq 68 (.agg #[.int .i64 a, .int .u16 b, .int .i64 c, .string s]) (.agg #[.int .i64 d, .int .u16 e, .int .i64 f, .string u])).run Try.prog w = .ok (.bool (!eqR ⟨⟨a, b⟩, c, s⟩ ⟨⟨d, e⟩, f, u⟩)) w := by
  have hS : Try.prog.underlying 68 = some (.struct (Try.prog.fieldsOf 68)) := by kernel_rfl
  have hp : Try.prog.stoodInHeld 68 = false := by kernel_rfl
  have u3 := Try.underlying2
  have u4 := Try.underlying9
  have a3 := Try.isAgg2
  have a4 := Try.isAgg9
  have a5 := Try.isAgg28
  have z3 := Try.sizeOf2
  have z4 := Try.sizeOf9
  have z5 := Try.sizeOf28
  have hk := fun w => equal_key w a b d e
  rw [run_neq_struct, show (10000 : Nat) = 9999 + 1 from rfl, run_equalIn_agg w 9999 68 _ _ hS hp]
  simp only [Program.fieldsOf, Try.underlying68]
  clear hS hp
  unfold eqR
  have hv : ∀ w : World, (Op.equalIn 9999 2 (.int .i64 c) (.int .i64 f)).run Try.prog w = .ok (c == f) w := fun w => run_equalIn_int w 9998 2 .i64 .i64 c f u3
  have hs : ∀ w : World, (Op.equalIn 9999 9 (.string s) (.string u)).run Try.prog w = .ok (s.toList == u.toList) w := fun w => run_equalIn_string w 9998 9 s u u4
  have x1 : (#[Value.int .i64 a, .int .u16 b, .int .i64 c, .string s].extract 0 2) = #[Value.int .i64 a, .int .u16 b] := rfl
  have x2 : (#[Value.int .i64 d, .int .u16 e, .int .i64 f, .string u].extract 0 2) = #[Value.int .i64 d, .int .u16 e] := rfl
  have t1 : (#[Value.int .i64 a, .int .u16 b, .int .i64 c, .string s])[2]? = some (.int .i64 c) := rfl
  have t2 : (#[Value.int .i64 d, .int .u16 e, .int .i64 f, .string u])[2]? = some (.int .i64 f) := rfl
  have t3 : (#[Value.int .i64 a, .int .u16 b, .int .i64 c, .string s])[3]? = some (.string s) := rfl
  have t4 : (#[Value.int .i64 d, .int .u16 e, .int .i64 f, .string u])[3]? = some (.string u) := rfl
  have n1 : ("Key" : String) ≠ "_" := by decide
  have n2 : ("Val" : String) ≠ "_" := by decide
  have n3 : ("Note" : String) ≠ "_" := by decide
  simp only [Op.eqFields, part, a5, z5, a3, a4, hk, hv, hs, x1, x2, t1, t2, t3, t4, if_pos n1, if_pos n2, if_pos n3, Sem.run_bind, Sem.run_ite, Sem.run_pure, Result.andThen_ok, Nat.zero_add, Bool.false_eq_true, if_false, if_true]
  generalize (s.toList == u.toList) = g
  by_cases h1 : a = d <;> by_cases h2 : b = e <;> by_cases h3 : c = f <;> simp [h1, h2, h3]
  cases g <;> rfl

set_option maxRecDepth 100000 in
set_option maxHeartbeats 2000000 in
theorem equal_any (q1 : Option Addr) (n1 c1 : Nat) (l : List RowD) (q2 : Option Addr) (n2 c2 : Nat) (m : List RowD) (w : World) (h1 : RowsOn w q1 n1 c1 l) (h2 : RowsOn w q2 n2 c2 m) :
    Calls Try.prog 58 #[.slice q1 n1 c1, .slice q2 n2 c2] w (fun e w' => e = .returned (.bool (sameL l m)) ∧ Below w.heap.size w w') := by
  have k1 := Nat.le_trans h1.le h1.cap
  have k2 := Nat.le_trans h2.le h2.cap
  unfold maxLen at k1 k2
  have g1 := Lib.hid h1
  have g2 := Lib.hid h2
  clear h1 h2
  by_cases hn : n1 = n2
  · subst hn
    have hT : Hid ((∀ i a b, i < n1 → l[i]? = some a → m[i]? = some b → eqR a b = true) → sameL l m = true) := fun h => sameL_of g1.out.len g2.out.len h
    have hF : Hid (∀ i a b, l[i]? = some a → m[i]? = some b → eqR a b = false → sameL l m = false) := fun i a b ha hb h => sameL_at ha hb h
    obtain ⟨E, hE⟩ : ∃ E, sameL l m = E := ⟨_, rfl⟩
    rw [hE] at hT hF ⊢
    clear hE
    go_enter Try.func58, Try.ntmps58
    go_wp2
    go_loopw [13] (fun v13 wr => ∃ k : Nat, k ≤ n1 ∧ v13 = .int .i64 k ∧ Hid (Below w.heap.size w wr) ∧ Hid (∀ i a b, i < k → l[i]? = some a → m[i]? = some b → eqR a b = true)) (fun v13 _ => n1 - (intOf v13).toNat)
    case atStart => exact ⟨0, Nat.zero_le _, rfl, (show Below _ _ _ from Below.refl _ _), fun i a b hi => by omega⟩
    case round =>
      obtain ⟨k, hk, rfl, hb, hp⟩ := hrel
      by_cases hlt : k < n1
      · obtain ⟨A, ⟨⟨at_, ai⟩, av, as_⟩, hqA, hx, hokA, hcA⟩ := (g1.out.below hb.out (Nat.le_refl _)).at hlt
        obtain ⟨B, ⟨⟨bt, bi⟩, bv, bs⟩, hqB, hy, hokB, hcB⟩ := (g2.out.below hb.out (Nat.le_refl _)).at hlt
        subst hqA
        subst hqB
        have p0 : wr.cell? (A.add (k * 4)) = some (.int .i64 at_) := by have h := hcA 0 _ rfl; rwa [add0] at h
        have p1 : wr.cell? ⟨(A.add (k * 4)).block, (A.add (k * 4)).off + 1, none⟩ = some (.int .u16 ai) := hcA 1 _ rfl
        have p2 : wr.cell? ⟨(A.add (k * 4)).block, (A.add (k * 4)).off + 2, none⟩ = some (.int .i64 av) := hcA 2 _ rfl
        have p3 : wr.cell? ⟨(A.add (k * 4)).block, (A.add (k * 4)).off + 3, none⟩ = some (.string as_) := hcA 3 _ rfl
        have q0 : wr.cell? (B.add (k * 4)) = some (.int .i64 bt) := by have h := hcB 0 _ rfl; rwa [add0] at h
        have q1 : wr.cell? ⟨(B.add (k * 4)).block, (B.add (k * 4)).off + 1, none⟩ = some (.int .u16 bi) := hcB 1 _ rfl
        have q2 : wr.cell? ⟨(B.add (k * 4)).block, (B.add (k * 4)).off + 2, none⟩ = some (.int .i64 bv) := hcB 2 _ rfl
        have q3 : wr.cell? ⟨(B.add (k * 4)).block, (B.add (k * 4)).off + 3, none⟩ = some (.string bs) := hcB 3 _ rfl
        have hx' := Lib.hid hx
        have hy' := Lib.hid hy
        have i0 : (0 : Int) ≤ k := by omega
        have i1 : (k : Int) < n1 := by omega
        clear hx hy hokA hokB hcA hcB
        have hne := fun u => neq_row u at_ ai av as_ bt bi bv bs
        obtain ⟨b, hbv⟩ : ∃ b, eqR ⟨⟨at_, ai⟩, av, as_⟩ ⟨⟨bt, bi⟩, bv, bs⟩ = b := ⟨_, rfl⟩
        rw [hbv] at hne
        have hbv' := Lib.hid hbv
        clear hbv
        cases b with
        | true =>
          go_wp2
          go_quiet (fail)
          clear hne p0 p1 p2 p3 q0 q1 q2 q3
          go_wp2
          go_roundw
          case rel =>
            refine ⟨k + 1, by omega, by go_num, (show Below _ _ _ from hb.out.trans ((below_drewN _ _).mono hb.out.size)), fun i a b hi ha hb2 => ?_⟩
            rcases Nat.lt_or_ge i k with h | h
            · exact hp.out i a b h ha hb2
            · obtain rfl : i = k := by omega
              rw [hx'.out] at ha; rw [hy'.out] at hb2
              cases ha; cases hb2
              exact hbv'.out
          case measure => simp [intOf]; omega
        | false =>
          go_wp2
          go_quiet (fail)
          clear hne p0 p1 p2 p3 q0 q1 q2 q3
          go_wp2
          go_ret
          exact ⟨by rw [hF.out k _ _ hx'.out hy'.out hbv'.out]; rfl, hb.out.trans ((below_drewN _ _).mono hb.out.size)⟩
      · obtain rfl : n1 = k := by omega
        go_wp2
        go_ret
        exact ⟨by rw [hT.out hp.out]; rfl, hb.out⟩
  · have hs : sameL l m = false := sameL_ne (by rw [g1.out.len, g2.out.len]; exact hn)
    rw [hs]
    clear hs
    have hn1 : ¬ (n1 : Int) = n2 := by omega
    have hn2 : decide (n1 = n2) = false := decide_eq_false hn
    go_enter Try.func58, Try.ntmps58
    go_wp2
    go_ret
    exact ⟨rfl, Below.refl _ _⟩

set_option maxRecDepth 100000 in
set_option maxHeartbeats 2000000 in
theorem refSame_any (q1 : Option Addr) (n1 c1 : Nat) (l : List RowD) (q2 : Option Addr) (n2 c2 : Nat) (m : List RowD) (w : World) (h1 : RowsOn w q1 n1 c1 l) (h2 : RowsOn w q2 n2 c2 m) :
    Calls Try.prog 13 #[.slice q1 n1 c1, .slice q2 n2 c2] w (fun e w' => e = .returned (.bool (sameL l m)) ∧ Below w.heap.size w w') := by
  have k1 := Nat.le_trans h1.le h1.cap
  have k2 := Nat.le_trans h2.le h2.cap
  unfold maxLen at k1 k2
  have g1 := Lib.hid h1
  have g2 := Lib.hid h2
  clear h1 h2
  by_cases hn : n1 = n2
  · subst hn
    have hT : Hid ((∀ i a b, i < n1 → l[i]? = some a → m[i]? = some b → eqR a b = true) → sameL l m = true) := fun h => sameL_of g1.out.len g2.out.len h
    have hF : Hid (∀ i a b, l[i]? = some a → m[i]? = some b → eqR a b = false → sameL l m = false) := fun i a b ha hb h => sameL_at ha hb h
    obtain ⟨E, hE⟩ : ∃ E, sameL l m = E := ⟨_, rfl⟩
    rw [hE] at hT hF ⊢
    clear hE
    go_enter Try.func13, Try.ntmps13
    go_wp2
    go_loopw [5] (fun v5 wr => ∃ k : Nat, k ≤ n1 ∧ v5 = .int .i64 k ∧ Hid (Below w.heap.size w wr) ∧ Hid (∀ i a b, i < k → l[i]? = some a → m[i]? = some b → eqR a b = true)) (fun v5 _ => n1 - (intOf v5).toNat)
    case atStart => exact ⟨0, Nat.zero_le _, rfl, (show Below _ _ _ from Below.refl _ _), fun i a b hi => by omega⟩
    case round =>
      obtain ⟨k, hk, rfl, hb, hp⟩ := hrel
      by_cases hlt : k < n1
      · obtain ⟨A, ⟨⟨at_, ai⟩, av, as_⟩, hqA, hx, hokA, hcA⟩ := (g1.out.below hb.out (Nat.le_refl _)).at hlt
        obtain ⟨B, ⟨⟨bt, bi⟩, bv, bs⟩, hqB, hy, hokB, hcB⟩ := (g2.out.below hb.out (Nat.le_refl _)).at hlt
        subst hqA
        subst hqB
        have p0 : wr.cell? (A.add (k * 4)) = some (.int .i64 at_) := by have h := hcA 0 _ rfl; rwa [add0] at h
        have p1 : wr.cell? ⟨(A.add (k * 4)).block, (A.add (k * 4)).off + 1, none⟩ = some (.int .u16 ai) := hcA 1 _ rfl
        have p2 : wr.cell? ⟨(A.add (k * 4)).block, (A.add (k * 4)).off + 2, none⟩ = some (.int .i64 av) := hcA 2 _ rfl
        have p3 : wr.cell? ⟨(A.add (k * 4)).block, (A.add (k * 4)).off + 3, none⟩ = some (.string as_) := hcA 3 _ rfl
        have q0 : wr.cell? (B.add (k * 4)) = some (.int .i64 bt) := by have h := hcB 0 _ rfl; rwa [add0] at h
        have q1 : wr.cell? ⟨(B.add (k * 4)).block, (B.add (k * 4)).off + 1, none⟩ = some (.int .u16 bi) := hcB 1 _ rfl
        have q2 : wr.cell? ⟨(B.add (k * 4)).block, (B.add (k * 4)).off + 2, none⟩ = some (.int .i64 bv) := hcB 2 _ rfl
        have q3 : wr.cell? ⟨(B.add (k * 4)).block, (B.add (k * 4)).off + 3, none⟩ = some (.string bs) := hcB 3 _ rfl
        have hx' := Lib.hid hx
        have hy' := Lib.hid hy
        have i0 : (0 : Int) ≤ k := by omega
        have i1 : (k : Int) < n1 := by omega
        clear hx hy hokA hokB hcA hcB
        have hne := fun u => neq_row u at_ ai av as_ bt bi bv bs
        obtain ⟨b, hbv⟩ : ∃ b, eqR ⟨⟨at_, ai⟩, av, as_⟩ ⟨⟨bt, bi⟩, bv, bs⟩ = b := ⟨_, rfl⟩
        rw [hbv] at hne
        have hbv' := Lib.hid hbv
        clear hbv
        cases b with
        | true =>
          go_wp2
          go_quiet (fail)
          clear hne p0 p1 p2 p3 q0 q1 q2 q3
          go_wp2
          go_roundw
          case rel =>
            refine ⟨k + 1, by omega, by go_num, (show Below _ _ _ from hb.out.trans ((below_drewN _ _).mono hb.out.size)), fun i a b hi ha hb2 => ?_⟩
            rcases Nat.lt_or_ge i k with h | h
            · exact hp.out i a b h ha hb2
            · obtain rfl : i = k := by omega
              rw [hx'.out] at ha; rw [hy'.out] at hb2
              cases ha; cases hb2
              exact hbv'.out
          case measure => simp [intOf]; omega
        | false =>
          go_wp2
          go_quiet (fail)
          clear hne p0 p1 p2 p3 q0 q1 q2 q3
          go_wp2
          go_ret
          exact ⟨by rw [hF.out k _ _ hx'.out hy'.out hbv'.out]; rfl, hb.out.trans ((below_drewN _ _).mono hb.out.size)⟩
      · obtain rfl : n1 = k := by omega
        go_wp2
        go_ret
        exact ⟨by rw [hT.out hp.out]; rfl, hb.out⟩
  · have hs : sameL l m = false := sameL_ne (by rw [g1.out.len, g2.out.len]; exact hn)
    rw [hs]
    clear hs
    have hn1 : ¬ (n1 : Int) = n2 := by omega
    have hn2 : decide (n1 = n2) = false := decide_eq_false hn
    go_enter Try.func13, Try.ntmps13
    go_wp2
    go_ret
    exact ⟨rfl, Below.refl _ _⟩

set_option maxRecDepth 100000 in
theorem same_any (q1 : Option Addr) (n1 c1 : Nat) (l : List RowD) (q2 : Option Addr) (n2 c2 : Nat) (m : List RowD) (w : World) (h1 : RowsOn w q1 n1 c1 l) (h2 : RowsOn w q2 n2 c2 m) :
    Calls Try.prog 29 #[.slice q1 n1 c1, .slice q2 n2 c2] w (fun e w' => e = .returned (.bool (sameL l m)) ∧ Below w.heap.size w w') := by
  have hc := Lib.hid (equal_any q1 n1 c1 l q2 n2 c2 m w h1 h2)
  clear h1 h2
  go_enter Try.func29, Try.ntmps29
  go_wp2_with (go_at_call 58; refine hc.out.mono ?_; rintro e w1 ⟨rfl, hb⟩)
  go_ret
  exact ⟨rfl, hb⟩
end Go.Proofs.Ytkdkncbccofpdaa
