/- Parts of the proof: Which records may be: images; Equal lists: a checkpoint's pages and transactions, steps -/
import Derived.Test.YtocekhckmpkbmaaGreatU09
import Derived.Test.YtocekhckmpkbmaaGreatU01
namespace Go.Proofs.YtocekhckmpkbmaaGreat
open Go.RowKit
def ImgGood (d : ImgD) : Prop := GoodC d.bef ∧ GoodC d.aft
def ImagesOk (L : List ImgD) : Prop := (L.length ≤ 16 ∧ riseF (-1) (L.map (·.page)) = true) ∧ ∀ d ∈ L, ImgGood d
theorem chk_zero {c : ContD} {w w' : World} {e : Ending} (h : ChkPost c w e w') : (∃ x, e = .returned (.int .i64 x) ∧ ((x = 0 ∧ GoodC c) ∨ (x ≠ 0 ∧ ¬ GoodC c))) ∧ Below w.heap.size w w' := by
 obtain ⟨x, rfl, hx, hb⟩ := h; rcases hx with ⟨rfl, h⟩ | ⟨rfl, h⟩
 · exact ⟨⟨0, rfl, .inl ⟨rfl, h⟩⟩, hb⟩
 · exact ⟨⟨160, rfl, .inr ⟨by decide, h⟩⟩, hb⟩
set_option maxRecDepth 100000 in
set_option maxHeartbeats 8000000 in
theorem imagesMayBe_any (q : Option Addr) (n c : Nat) (V : List ImgV) (L : List ImgD) (w : World) (h : ImgsOn w q n c V L) (hm : n ≤ maxLen) (b : Bool) (hb : b = true ↔ ImagesOk L) :
 Calls Tryz.prog 63 #[.slice q n c] w (fun e w' => e = .returned (.bool b) ∧ Below w.heap.size w w') := by
 have hh := lh h; have hl : Hid (L.length = n) := by have h1 := h.len; have h2 := h.on.len; show L.length = n; omega
 have hb' := lh hb; have hrs := lh (riseImg_any q n c V L w h hm); unfold maxLen at hm; clear h hb
 go_enter Tryz.func63, Tryz.ntmps63
 by_cases h16 : 16 < n
 · have d1 : decide ((16 : Int) < n) = true := decide_eq_true (by omega); obtain rfl : b = false := b_false hb'.out (fun h => by have := h.1.1; have := hl.out; omega); go_wp2; go_ret; exact ⟨rfl, Below.refl _ _⟩
 have d1 : decide ((16 : Int) < n) = false := decide_eq_false (by omega); obtain ⟨R, hR⟩ : ∃ R, riseF (-1) (L.map (·.page)) = R := ⟨_, rfl⟩; rw [hR] at hrs; have hR := lh hR
 go_wp2_with fail
 refine hrs.out.mono ?_; clear hrs; rintro e w1 ⟨rfl, hb1⟩; have hd0 := lh hb1; clear hb1; cases R with
 | false => obtain rfl : b = false := b_false hb'.out (fun h => by have h1 := h.1.2; rw [hR.out] at h1; cases h1); go_wp2; go_ret; exact ⟨rfl, hd0.out⟩
 | true =>
 go_wp2
 go_loopw [15] (fun v wr => ∃ j : Nat, j ≤ n ∧ v = .int .i64 j ∧ Hid (Below w.heap.size w wr) ∧ Hid (∀ (i : Nat) x, i < j → L[i]? = some x → ImgGood x)) (fun v _ => n - (RowKit.intOf v).toNat)
 case atStart => exact ⟨0, Nat.zero_le _, rfl, hd0, fun i x hi => by omega⟩
 case round =>
  obtain ⟨j, hj, rfl, hd, hq⟩ := hrel
  by_cases hlt : j < n
  · obtain ⟨A, ⟨p, ⟨k1, q1, n1, c1, q2, n2, c2⟩, ⟨k3, q3, n3, c3, q4, n4, c4⟩⟩, d, hqA, hx, hdx, hon, hcA⟩ := (hh.out.below hd.out (Nat.le_refl _)).at hlt; subst hqA; have hcA : Hid (∀ j' x, ([.int .i64 p, .int .i64 k1, .slice q1 n1 c1, .slice q2 n2 c2, .int .i64 k3, .slice q3 n3 c3, .slice q4 n4 c4] : List Value)[j']? = some x → wr.cell? ((A.add (j * 7)).add j') = some x) := hcA; have hs : (Tryz.prog.info? 62).map (·.size) = some [Value.int .i64 p, Value.int .i64 k1, Value.slice q1 n1 c1, Value.slice q2 n2 c2, Value.int .i64 k3, Value.slice q3 n3 c3, Value.slice q4 n4 c4].length := sizeImg ⟨p, ⟨k1, q1, n1, c1, q2, n2, c2⟩, ⟨k3, q3, n3, c3, q4, n4, c4⟩⟩; have hx' := lh hdx; have i0 : (0 : Int) ≤ j := by omega
    have i1 : (j : Int) < n := by omega
    obtain ⟨w2, hw2⟩ : ∃ x, wr.alloc (.cells #[.int .i64 p, .int .i64 k1, .slice q1 n1 c1, .slice q2 n2 c2, .int .i64 k3, .slice q3 n3 c3, .slice q4 n4 c4] 62) = x := ⟨_, rfl⟩; have hbk := lh (one_box hw2); have hd2 := lh (below_step hbk.out.1 hd.out)
    have h1 : Hid (∀ u, Below w2.heap.size w2 u → ∀ j' x, ([.int .i64 k1, .slice q1 n1 c1, .slice q2 n2 c2] : List Value)[j']? = some x → u.cell? ((⟨wr.heap.size, 1, none⟩ : Addr).add j') = some x) := fun u hu => Boxed.part (hbk.out.2.1.below hu (Nat.le_refl _)) (o := 1) (fun j' x hj => by
     match j', hj with
     | 0, hj => exact hj
     | 1, hj => exact hj
     | 2, hj => exact hj
     | j' + 3, hj => simp at hj)
    have h3 : Hid (∀ u, Below w2.heap.size w2 u → ∀ j' x, ([.int .i64 k3, .slice q3 n3 c3, .slice q4 n4 c4] : List Value)[j']? = some x → u.cell? ((⟨wr.heap.size, 4, none⟩ : Addr).add j') = some x) := fun u hu => Boxed.part (hbk.out.2.1.below hu (Nat.le_refl _)) (o := 4) (fun j' x hj => by
     match j', hj with
     | 0, hj => exact hj
     | 1, hj => exact hj
     | 2, hj => exact hj
     | j' + 3, hj => simp at hj)
    have z1 := sizeCont (.int .i64 k1) (.slice q1 n1 c1) (.slice q2 n2 c2); have z3 := sizeCont (.int .i64 k3) (.slice q3 n3 c3) (.slice q4 n4 c4); have hon := lh (fun u (hu : Below wr.heap.size wr u) => hon.below hu (Nat.le_refl _)); have f1 := lh (h1.out w2 (Below.refl _ _)); clear hx hdx
    go_wp2_with (first
     | (with_reducible refine wpList_load_at rfl 62 (.tmp 17) rfl Tryz.underlying62 rfl hs rfl hcA.out ?_)
     | (with_reducible refine wpList_load_at rfl 55 (.tmp 19) rfl Tryz.underlying55 rfl z1 rfl f1.out ?_))
    refine (check_any k1 q1 n1 c1 q2 n2 c2 d.bef w2 (hon.out w2 hbk.out.1).bef).mono ?_; clear hw2; intro e w3 hcp; obtain ⟨⟨x, rfl, hx⟩, hb⟩ := chk_zero hcp; have hq3 := lh hb; have hd3 := lh (below_step hb hd2.out); clear hb hcp; rcases hx with ⟨rfl, hg1⟩ | ⟨hx0, hg1⟩
    rotate_left
    · have d2 : (x != 0) = true := by simpa using hx0
      obtain rfl : b = false := b_false hb'.out (fun h => hg1 (h.2 d (List.mem_of_getElem? hx'.out)).1); clear hx0 hg1; go_wp2; go_ret; exact ⟨rfl, hd3.out⟩
    have hg1 := lh hg1; have e0 := h3.out w3 hq3.out 0 _ rfl; have e1 := h3.out w3 hq3.out 1 _ rfl; have e2 := h3.out w3 hq3.out 2 _ rfl; have e0 : w3.cell? ⟨wr.heap.size, 4, none⟩ = some (.int .i64 k3) := e0; have e1 : w3.cell? ⟨wr.heap.size, 5, none⟩ = some (.slice q3 n3 c3) := e1; have e2 : w3.cell? ⟨wr.heap.size, 6, none⟩ = some (.slice q4 n4 c4) := e2
    go_wp2_with fail
    refine (check_any k3 q3 n3 c3 q4 n4 c4 d.aft w3 (hon.out w3 (below_step hq3.out hbk.out.1)).aft).mono ?_; clear e0 e1 e2; intro e w4 hcp; obtain ⟨⟨x, rfl, hx⟩, hb⟩ := chk_zero hcp; have hd4 := lh (below_step hb hd3.out); clear hb hcp; rcases hx with ⟨rfl, hg2⟩ | ⟨hx0, hg2⟩
    rotate_left
    · have d2 : (x != 0) = true := by simpa using hx0
      obtain rfl : b = false := b_false hb'.out (fun h => hg2 (h.2 d (List.mem_of_getElem? hx'.out)).2); clear hx0 hg2; go_wp2; go_ret; exact ⟨rfl, hd4.out⟩
    have hg2 := lh hg2; go_wp2
    go_roundw
    case rel =>
     refine ⟨j + 1, by omega, by go_num, hd4, fun i x hi hxi => ?_⟩; rcases Nat.lt_or_ge i j with h | h
     · exact hq.out i x h hxi
     · obtain rfl : i = j := by omega
       rw [hx'.out] at hxi; cases hxi; exact ⟨hg1.out, hg2.out⟩
    case measure => simp [RowKit.intOf]; omega
  · obtain rfl : n = j := by omega
    obtain rfl : b = true := hb'.out.2 ⟨⟨by have := hl.out; omega, hR.out⟩, fun d hd => by
     obtain ⟨i, hi⟩ := List.mem_iff_getElem?.1 hd
     exact hq.out i d (by have := (List.getElem?_eq_some_iff.1 hi).1; have := hl.out; omega) hi⟩
    go_wp2; go_ret; exact ⟨rfl, hd.out⟩
set_option maxRecDepth 100000 in
set_option maxHeartbeats 8000000 in
theorem oneSided_any (q : Option Addr) (n c : Nat) (V : List ImgV) (L : List ImgD) (w : World) (h : ImgsOn w q n c V L) (hm : n ≤ maxLen) (b : Bool) (hb : b = true ↔ ∀ d ∈ L, d.bef = zeroC) :
 Calls Tryz.prog 65 #[.slice q n c] w (fun e w' => e = .returned (.bool b) ∧ Below w.heap.size w w') := by
 have hh := lh h; have hl : Hid (L.length = n) := by have h1 := h.len; have h2 := h.on.len; show L.length = n; omega
 have hb' := lh hb; unfold maxLen at hm; clear h hb
 go_enter Tryz.func65, Tryz.ntmps65
 go_wp2
 go_loopw [7] (fun v wr => ∃ j : Nat, j ≤ n ∧ v = .int .i64 j ∧ Hid (Below w.heap.size w wr) ∧ Hid (∀ (i : Nat) x, i < j → L[i]? = some x → x.bef = zeroC)) (fun v _ => n - (RowKit.intOf v).toNat)
 case atStart => exact ⟨0, Nat.zero_le _, rfl, (show Below _ _ _ from Below.refl _ _), fun i x hi => by omega⟩
 case round =>
  obtain ⟨j, hj, rfl, hd, hq⟩ := hrel
  by_cases hlt : j < n
  · obtain ⟨A, ⟨p, ⟨k1, q1, n1, c1, q2, n2, c2⟩, ⟨k3, q3, n3, c3, q4, n4, c4⟩⟩, d, hqA, hx, hdx, hon, hcA⟩ := (hh.out.below hd.out (Nat.le_refl _)).at hlt; subst hqA; have hcA : Hid (∀ j' x, ([.int .i64 p, .int .i64 k1, .slice q1 n1 c1, .slice q2 n2 c2, .int .i64 k3, .slice q3 n3 c3, .slice q4 n4 c4] : List Value)[j']? = some x → wr.cell? ((A.add (j * 7)).add j') = some x) := hcA; have hs : (Tryz.prog.info? 62).map (·.size) = some [Value.int .i64 p, Value.int .i64 k1, Value.slice q1 n1 c1, Value.slice q2 n2 c2, Value.int .i64 k3, Value.slice q3 n3 c3, Value.slice q4 n4 c4].length := sizeImg ⟨p, ⟨k1, q1, n1, c1, q2, n2, c2⟩, ⟨k3, q3, n3, c3, q4, n4, c4⟩⟩; have hx' := lh hdx; have i0 : (0 : Int) ≤ j := by omega
    have i1 : (j : Int) < n := by omega
    obtain ⟨w2, hw2⟩ : ∃ x, wr.alloc (.cells #[.int .i64 p, .int .i64 k1, .slice q1 n1 c1, .slice q2 n2 c2, .int .i64 k3, .slice q3 n3 c3, .slice q4 n4 c4] 62) = x := ⟨_, rfl⟩; have hbk := lh (one_box hw2); have hd2 := lh (below_step hbk.out.1 hd.out)
    have h1 : Hid (∀ u, Below w2.heap.size w2 u → ∀ j' x, ([.int .i64 k1, .slice q1 n1 c1, .slice q2 n2 c2] : List Value)[j']? = some x → u.cell? ((⟨wr.heap.size, 1, none⟩ : Addr).add j') = some x) := fun u hu => Boxed.part (hbk.out.2.1.below hu (Nat.le_refl _)) (o := 1) (fun j' x hj => by
     match j', hj with
     | 0, hj => exact hj
     | 1, hj => exact hj
     | 2, hj => exact hj
     | j' + 3, hj => simp at hj)
    have h3 : Hid (∀ u, Below w2.heap.size w2 u → ∀ j' x, ([.int .i64 k3, .slice q3 n3 c3, .slice q4 n4 c4] : List Value)[j']? = some x → u.cell? ((⟨wr.heap.size, 4, none⟩ : Addr).add j') = some x) := fun u hu => Boxed.part (hbk.out.2.1.below hu (Nat.le_refl _)) (o := 4) (fun j' x hj => by
     match j', hj with
     | 0, hj => exact hj
     | 1, hj => exact hj
     | 2, hj => exact hj
     | j' + 3, hj => simp at hj)
    have z1 := sizeCont (.int .i64 k1) (.slice q1 n1 c1) (.slice q2 n2 c2); have z3 := sizeCont (.int .i64 k3) (.slice q3 n3 c3) (.slice q4 n4 c4); have hon := lh (fun u (hu : Below wr.heap.size wr u) => hon.below hu (Nat.le_refl _)); have f1 := lh (h1.out w2 (Below.refl _ _)); clear hx hdx; obtain ⟨E, hE⟩ := bool_of (d.bef = zeroC); have hE := lh hE; have hsm := same_c k1 q1 n1 c1 q2 n2 c2 d.bef 0 none 0 0 none 0 0 zeroC w2 (hon.out w2 hbk.out.1).bef ⟨rfl, RowsOn.none_ _, KidsOn.none_ _⟩
    have he : sameC d.bef zeroC = E := by
     cases E with
     | true => exact sameC_iff.2 (hE.out.1 rfl)
     | false => rw [Bool.eq_false_iff]; exact fun h => by have := hE.out.2 (sameC_iff.1 h); cases this
    rw [he] at hsm; have hsm := lh hsm; clear he
    go_wp2_with (first
     | (with_reducible refine wpList_load_at rfl 62 (.tmp 9) rfl Tryz.underlying62 rfl hs rfl hcA.out ?_)
     | (with_reducible refine wpList_load_at rfl 55 (.tmp 11) rfl Tryz.underlying55 rfl z1 rfl f1.out ?_))
    refine hsm.out.mono ?_; clear hw2 hsm; rintro e w3 ⟨rfl, hb⟩; have hd3 := lh (below_step hb hd2.out); clear hb; cases E with
    | false => obtain rfl : b = false := b_false hb'.out (fun h => by have := hE.out.2 (h d (List.mem_of_getElem? hx'.out)); cases this); go_wp2; go_ret; exact ⟨rfl, hd3.out⟩
    | true =>
      have hg := lh (hE.out.1 rfl); go_wp2
      go_roundw
      case rel =>
       refine ⟨j + 1, by omega, by go_num, hd3, fun i x hi hxi => ?_⟩; rcases Nat.lt_or_ge i j with h | h
       · exact hq.out i x h hxi
       · obtain rfl : i = j := by omega
         rw [hx'.out] at hxi; cases hxi; exact hg.out
      case measure => simp [RowKit.intOf]; omega
  · obtain rfl : n = j := by omega
    obtain rfl : b = true := hb'.out.2 fun d hd => by obtain ⟨i, hi⟩ := List.mem_iff_getElem?.1 hd; exact hq.out i d (by have := (List.getElem?_eq_some_iff.1 hi).1; have := hl.out; omega) hi
    go_wp2; go_ret; exact ⟨rfl, hd.out⟩
end Go.Proofs.YtocekhckmpkbmaaGreat
namespace Go.Proofs.YtocekhckmpkbmaaGreat
open Go.RowKit
def sameB {α : Type} (e : α → α → Bool) : List α → List α → Bool
 | [], [] => true
 | a :: l, b :: m => e a b && sameB e l m
 | _, _ => false
theorem sameB_of {α : Type} {e : α → α → Bool} : ∀ {l m : List α}, l.length = m.length → (∀ (i : Nat) a b, l[i]? = some a → m[i]? = some b → e a b = true) → sameB e l m = true
 | [], [], _, _ => rfl
 | [], _ :: _, h, _ => by simp at h
 | _ :: _, [], h, _ => by simp at h
 | a :: l, b :: m, h, g => by simp only [sameB, Bool.and_eq_true]; exact ⟨g 0 a b rfl rfl, sameB_of (by simpa using h) (fun i x y hx hy => g (i + 1) x y (by simpa using hx) (by simpa using hy))⟩
theorem sameB_ne {α : Type} {e : α → α → Bool} : ∀ {l m : List α}, l.length ≠ m.length → sameB e l m = false
 | [], [], h => absurd rfl h
 | [], _ :: _, _ => rfl
 | _ :: _, [], _ => rfl
 | a :: l, b :: m, h => by simp only [sameB, Bool.and_eq_false_iff]; exact .inr (sameB_ne (fun h2 => h (by simp [h2])))
theorem sameB_at {α : Type} {e : α → α → Bool} : ∀ {l m : List α} {i : Nat} {a b : α}, l[i]? = some a → m[i]? = some b → e a b = false → sameB e l m = false
 | [], _, _, _, _, h, _, _ => by simp at h
 | _ :: _, [], _, _, _, _, h, _ => by simp at h
 | a :: l, b :: m, 0, x, y, h1, h2, h => by simp at h1 h2; subst h1 h2; simp [sameB, h]
 | a :: l, b :: m, i + 1, x, y, h1, h2, h => by simp only [sameB, Bool.and_eq_false_iff]; exact .inr (sameB_at (i := i) (by simpa using h1) (by simpa using h2) h)
def eqP (a b : PgD) : Bool := a.page == b.page && a.rec_ == b.rec_
def eqT (a b : TxnD) : Bool := a.txn == b.txn && (a.first == b.first && (a.last == b.last && (a.undo == b.undo && a.state == b.state)))
def eqS (a b : StepD) : Bool := a.kind == b.kind && (eqR a.row b.row && a.by_ == b.by_)
theorem neq_pg (w : World) (a0 b0 a1 b1 : Int) : (binOp .neq 85 (.agg #[.int .i64 a0, .int .u64 a1]) (.agg #[.int .i64 b0, .int .u64 b1])).run Tryz.prog w = .ok (.bool (!eqP ⟨a0, a1⟩ ⟨b0, b1⟩)) w := by
 have hS : Tryz.prog.underlying 85 = some (.struct (Tryz.prog.fieldsOf 85)) := by kernel_rfl
 have hp : Tryz.prog.stoodInHeld 85 = false := by kernel_rfl
 have u0 := Tryz.underlying3; have g0 := Tryz.isAgg3; have z0 := Tryz.sizeOf3; have u1 := Tryz.underlying24; have g1 := Tryz.isAgg24; have z1 := Tryz.sizeOf24; rw [run_neq_struct, show (10000 : Nat) = 9999 + 1 from rfl, run_equalIn_agg w 9999 85 _ _ hS hp]; simp only [Program.fieldsOf, Tryz.underlying85]; clear hS hp; unfold eqP
 go_simp
 by_cases h0 : a0 = b0 <;> by_cases h1 : a1 = b1 <;> simp [h0, h1]
set_option maxRecDepth 100000 in
set_option maxHeartbeats 2000000 in
theorem equalPg_any (q1 : Option Addr) (n1 c1 : Nat) (l : List PgD) (q2 : Option Addr) (n2 c2 : Nat) (m : List PgD) (w : World) (h1 : SlOn w q1 n1 c1 l) (h2 : SlOn w q2 n2 c2 m) (k1 : n1 ≤ maxLen) (k2 : n2 ≤ maxLen) :
 Calls Tryz.prog 40 #[.slice q1 n1 c1, .slice q2 n2 c2] w (fun e w' => e = .returned (.bool (sameB eqP l m)) ∧ Below w.heap.size w w') := by
 unfold maxLen at k1 k2; have g1 := lh h1; have g2 := lh h2; clear h1 h2
 by_cases hn : n1 = n2
 · subst hn; have hT : Hid ((∀ (i : Nat) a b, i < n1 → l[i]? = some a → m[i]? = some b → eqP a b = true) → sameB eqP l m = true) := fun h => sameB_of (by rw [g1.out.len, g2.out.len]) (fun i a b ha hb => h i a b (by have := (List.getElem?_eq_some_iff.1 ha).1; have := g1.out.len; omega) ha hb)
   have hF : Hid (∀ (i : Nat) a b, l[i]? = some a → m[i]? = some b → eqP a b = false → sameB eqP l m = false) := fun i a b ha hb h => sameB_at ha hb h
   obtain ⟨E, hE⟩ : ∃ E, sameB eqP l m = E := ⟨_, rfl⟩; rw [hE] at hT hF ⊢; clear hE
   go_enter Tryz.func40, Tryz.ntmps40
   go_wp2
   go_loopw [13] (fun v13 wr => ∃ k : Nat, k ≤ n1 ∧ v13 = .int .i64 k ∧ Hid (Below w.heap.size w wr) ∧ Hid (∀ (i : Nat) a b, i < k → l[i]? = some a → m[i]? = some b → eqP a b = true)) (fun v13 _ => n1 - (RowKit.intOf v13).toNat)
   case atStart => exact ⟨0, Nat.zero_le _, rfl, (show Below _ _ _ from Below.refl _ _), fun i a b hi => by omega⟩
   case round =>
    obtain ⟨k, hk, rfl, hb, hp⟩ := hrel
    by_cases hlt : k < n1
    · obtain ⟨A, ⟨a0, a1⟩, hqA, hx, hcA⟩ := (g1.out.below hb.out (Nat.le_refl _)).at hlt; obtain ⟨B, ⟨b0, b1⟩, hqB, hy, hcB⟩ := (g2.out.below hb.out (Nat.le_refl _)).at hlt; subst hqA; subst hqB; have hcA : ∀ j' x, ([.int .i64 a0, .int .u64 a1] : List Value)[j']? = some x → wr.cell? ((A.add (k * 2)).add j') = some x := hcA; have hcB : ∀ j' x, ([.int .i64 b0, .int .u64 b1] : List Value)[j']? = some x → wr.cell? ((B.add (k * 2)).add j') = some x := hcB; have p0 : wr.cell? (A.add (k * 2)) = some (.int .i64 a0) := by have h := hcA 0 _ rfl; rwa [add0] at h
      have q0 : wr.cell? (B.add (k * 2)) = some (.int .i64 b0) := by have h := hcB 0 _ rfl; rwa [add0] at h
      have p1 : wr.cell? ⟨(A.add (k * 2)).block, (A.add (k * 2)).off + 1, none⟩ = some (.int .u64 a1) := hcA 1 _ rfl; have q1 : wr.cell? ⟨(B.add (k * 2)).block, (B.add (k * 2)).off + 1, none⟩ = some (.int .u64 b1) := hcB 1 _ rfl; have hx' := lh hx; have hy' := lh hy; have i0 : (0 : Int) ≤ k := by omega
      have i1 : (k : Int) < n1 := by omega
      clear hx hy hcA hcB; have hne := fun u => neq_pg u a0 b0 a1 b1
      obtain ⟨b, hbv⟩ : ∃ b, eqP ⟨a0, a1⟩ ⟨b0, b1⟩ = b := ⟨_, rfl⟩; rw [hbv] at hne; have hbv' := lh hbv; clear hbv; cases b with
      | true =>
        go_wp2
        go_quiet (fail)
        clear hne p0 q0 p1 q1; go_wp2
        go_roundw
        case rel =>
         refine ⟨k + 1, by omega, by go_num, (show Below _ _ _ from hb.out.trans ((below_drewN _ _).mono hb.out.size)), fun i a b hi ha hb2 => ?_⟩; rcases Nat.lt_or_ge i k with h | h
         · exact hp.out i a b h ha hb2
         · obtain rfl : i = k := by omega
           rw [hx'.out] at ha; rw [hy'.out] at hb2; cases ha; cases hb2; exact hbv'.out
        case measure => simp [RowKit.intOf]; omega
      | false =>
        go_wp2
        go_quiet (fail)
        clear hne p0 q0 p1 q1; go_wp2; go_ret; exact ⟨by rw [hF.out k _ _ hx'.out hy'.out hbv'.out]; rfl, hb.out.trans ((below_drewN _ _).mono hb.out.size)⟩
    · obtain rfl : n1 = k := by omega
      go_wp2; go_ret; exact ⟨by rw [hT.out hp.out]; rfl, hb.out⟩
 · have hs : sameB eqP l m = false := sameB_ne (by rw [g1.out.len, g2.out.len]; exact hn); rw [hs]; clear hs; have hn1 : ¬ (n1 : Int) = n2 := by omega
   have hn2 : decide (n1 = n2) = false := decide_eq_false hn
   go_enter Tryz.func40, Tryz.ntmps40
   go_wp2; go_ret; exact ⟨rfl, Below.refl _ _⟩
theorem neq_txn (w : World) (a0 b0 a1 b1 a2 b2 a3 b3 a4 b4 : Int) : (binOp .neq 82 (.agg #[.int .i64 a0, .int .u64 a1, .int .u64 a2, .int .u64 a3, .int .i64 a4]) (.agg #[.int .i64 b0, .int .u64 b1, .int .u64 b2, .int .u64 b3, .int .i64 b4])).run Tryz.prog w = .ok (.bool (!eqT ⟨a0, a1, a2, a3, a4⟩ ⟨b0, b1, b2, b3, b4⟩)) w := by
 have hS : Tryz.prog.underlying 82 = some (.struct (Tryz.prog.fieldsOf 82)) := by kernel_rfl
 have hp : Tryz.prog.stoodInHeld 82 = false := by kernel_rfl
 have u0 := Tryz.underlying3; have g0 := Tryz.isAgg3; have z0 := Tryz.sizeOf3; have u1 := Tryz.underlying24; have g1 := Tryz.isAgg24; have z1 := Tryz.sizeOf24; rw [run_neq_struct, show (10000 : Nat) = 9999 + 1 from rfl, run_equalIn_agg w 9999 82 _ _ hS hp]; simp only [Program.fieldsOf, Tryz.underlying82]; clear hS hp; unfold eqT
 go_simp
 by_cases h0 : a0 = b0 <;> by_cases h1 : a1 = b1 <;> by_cases h2 : a2 = b2 <;> by_cases h3 : a3 = b3 <;> by_cases h4 : a4 = b4 <;> simp [h0, h1, h2, h3, h4]
set_option maxRecDepth 100000 in
set_option maxHeartbeats 2000000 in
theorem equalTxn_any (q1 : Option Addr) (n1 c1 : Nat) (l : List TxnD) (q2 : Option Addr) (n2 c2 : Nat) (m : List TxnD) (w : World) (h1 : SlOn w q1 n1 c1 l) (h2 : SlOn w q2 n2 c2 m) (k1 : n1 ≤ maxLen) (k2 : n2 ≤ maxLen) :
 Calls Tryz.prog 39 #[.slice q1 n1 c1, .slice q2 n2 c2] w (fun e w' => e = .returned (.bool (sameB eqT l m)) ∧ Below w.heap.size w w') := by
 unfold maxLen at k1 k2; have g1 := lh h1; have g2 := lh h2; clear h1 h2
 by_cases hn : n1 = n2
 · subst hn; have hT : Hid ((∀ (i : Nat) a b, i < n1 → l[i]? = some a → m[i]? = some b → eqT a b = true) → sameB eqT l m = true) := fun h => sameB_of (by rw [g1.out.len, g2.out.len]) (fun i a b ha hb => h i a b (by have := (List.getElem?_eq_some_iff.1 ha).1; have := g1.out.len; omega) ha hb)
   have hF : Hid (∀ (i : Nat) a b, l[i]? = some a → m[i]? = some b → eqT a b = false → sameB eqT l m = false) := fun i a b ha hb h => sameB_at ha hb h
   obtain ⟨E, hE⟩ : ∃ E, sameB eqT l m = E := ⟨_, rfl⟩; rw [hE] at hT hF ⊢; clear hE
   go_enter Tryz.func39, Tryz.ntmps39
   go_wp2
   go_loopw [13] (fun v13 wr => ∃ k : Nat, k ≤ n1 ∧ v13 = .int .i64 k ∧ Hid (Below w.heap.size w wr) ∧ Hid (∀ (i : Nat) a b, i < k → l[i]? = some a → m[i]? = some b → eqT a b = true)) (fun v13 _ => n1 - (RowKit.intOf v13).toNat)
   case atStart => exact ⟨0, Nat.zero_le _, rfl, (show Below _ _ _ from Below.refl _ _), fun i a b hi => by omega⟩
   case round =>
    obtain ⟨k, hk, rfl, hb, hp⟩ := hrel
    by_cases hlt : k < n1
    · obtain ⟨A, ⟨a0, a1, a2, a3, a4⟩, hqA, hx, hcA⟩ := (g1.out.below hb.out (Nat.le_refl _)).at hlt; obtain ⟨B, ⟨b0, b1, b2, b3, b4⟩, hqB, hy, hcB⟩ := (g2.out.below hb.out (Nat.le_refl _)).at hlt; subst hqA; subst hqB; have hcA : ∀ j' x, ([.int .i64 a0, .int .u64 a1, .int .u64 a2, .int .u64 a3, .int .i64 a4] : List Value)[j']? = some x → wr.cell? ((A.add (k * 5)).add j') = some x := hcA; have hcB : ∀ j' x, ([.int .i64 b0, .int .u64 b1, .int .u64 b2, .int .u64 b3, .int .i64 b4] : List Value)[j']? = some x → wr.cell? ((B.add (k * 5)).add j') = some x := hcB; have p0 : wr.cell? (A.add (k * 5)) = some (.int .i64 a0) := by have h := hcA 0 _ rfl; rwa [add0] at h
      have q0 : wr.cell? (B.add (k * 5)) = some (.int .i64 b0) := by have h := hcB 0 _ rfl; rwa [add0] at h
      have p1 : wr.cell? ⟨(A.add (k * 5)).block, (A.add (k * 5)).off + 1, none⟩ = some (.int .u64 a1) := hcA 1 _ rfl; have q1 : wr.cell? ⟨(B.add (k * 5)).block, (B.add (k * 5)).off + 1, none⟩ = some (.int .u64 b1) := hcB 1 _ rfl; have p2 : wr.cell? ⟨(A.add (k * 5)).block, (A.add (k * 5)).off + 2, none⟩ = some (.int .u64 a2) := hcA 2 _ rfl; have q2 : wr.cell? ⟨(B.add (k * 5)).block, (B.add (k * 5)).off + 2, none⟩ = some (.int .u64 b2) := hcB 2 _ rfl; have p3 : wr.cell? ⟨(A.add (k * 5)).block, (A.add (k * 5)).off + 3, none⟩ = some (.int .u64 a3) := hcA 3 _ rfl; have q3 : wr.cell? ⟨(B.add (k * 5)).block, (B.add (k * 5)).off + 3, none⟩ = some (.int .u64 b3) := hcB 3 _ rfl; have p4 : wr.cell? ⟨(A.add (k * 5)).block, (A.add (k * 5)).off + 4, none⟩ = some (.int .i64 a4) := hcA 4 _ rfl; have q4 : wr.cell? ⟨(B.add (k * 5)).block, (B.add (k * 5)).off + 4, none⟩ = some (.int .i64 b4) := hcB 4 _ rfl
      have hx' := lh hx; have hy' := lh hy; have i0 : (0 : Int) ≤ k := by omega
      have i1 : (k : Int) < n1 := by omega
      clear hx hy hcA hcB; have hne := fun u => neq_txn u a0 b0 a1 b1 a2 b2 a3 b3 a4 b4
      obtain ⟨b, hbv⟩ : ∃ b, eqT ⟨a0, a1, a2, a3, a4⟩ ⟨b0, b1, b2, b3, b4⟩ = b := ⟨_, rfl⟩; rw [hbv] at hne; have hbv' := lh hbv; clear hbv; cases b with
      | true =>
        go_wp2
        go_quiet (fail)
        clear hne p0 q0 p1 q1 p2 q2 p3 q3 p4 q4; go_wp2
        go_roundw
        case rel =>
         refine ⟨k + 1, by omega, by go_num, (show Below _ _ _ from hb.out.trans ((below_drewN _ _).mono hb.out.size)), fun i a b hi ha hb2 => ?_⟩; rcases Nat.lt_or_ge i k with h | h
         · exact hp.out i a b h ha hb2
         · obtain rfl : i = k := by omega
           rw [hx'.out] at ha; rw [hy'.out] at hb2; cases ha; cases hb2; exact hbv'.out
        case measure => simp [RowKit.intOf]; omega
      | false =>
        go_wp2
        go_quiet (fail)
        clear hne p0 q0 p1 q1 p2 q2 p3 q3 p4 q4; go_wp2; go_ret; exact ⟨by rw [hF.out k _ _ hx'.out hy'.out hbv'.out]; rfl, hb.out.trans ((below_drewN _ _).mono hb.out.size)⟩
    · obtain rfl : n1 = k := by omega
      go_wp2; go_ret; exact ⟨by rw [hT.out hp.out]; rfl, hb.out⟩
 · have hs : sameB eqT l m = false := sameB_ne (by rw [g1.out.len, g2.out.len]; exact hn); rw [hs]; clear hs; have hn1 : ¬ (n1 : Int) = n2 := by omega
   have hn2 : decide (n1 = n2) = false := decide_eq_false hn
   go_enter Tryz.func39, Tryz.ntmps39
   go_wp2; go_ret; exact ⟨rfl, Below.refl _ _⟩
theorem equal_key8 (w : World) (a b c d : Int) : (Op.equalIn 9998 66 (.agg #[.int .i64 a, .int .u16 b]) (.agg #[.int .i64 c, .int .u16 d])).run Tryz.prog w = .ok (a == c && b == d) w := by
 have hS : Tryz.prog.underlying 66 = some (.struct (Tryz.prog.fieldsOf 66)) := by kernel_rfl
 have hp : Tryz.prog.stoodInHeld 66 = false := by kernel_rfl
 have u3 := Tryz.underlying3; have u4 := Tryz.underlying64; have a3 := Tryz.isAgg3; have a4 := Tryz.isAgg64; have z3 := Tryz.sizeOf3; have z4 := Tryz.sizeOf64; rw [show (9998 : Nat) = 9997 + 1 from rfl, run_equalIn_agg w 9997 66 _ _ hS hp]; simp only [Program.fieldsOf, Tryz.underlying66]; clear hS hp
 go_simp
 by_cases h1 : a = c <;> by_cases h2 : b = d <;> simp [h1, h2]
theorem equal_row9 (w : World) (a b c : Int) (s : ByteArray) (d e f : Int) (u : ByteArray) : (Op.equalIn 9999 68 (.agg #[.int .i64 a, .int .u16 b, .int .i64 c, .string s]) (.agg #[.int .i64 d, .int .u16 e, .int .i64 f, .string u])).run Tryz.prog w = .ok (eqR ⟨⟨a, b⟩, c, s⟩ ⟨⟨d, e⟩, f, u⟩) w := by
 have hS : Tryz.prog.underlying 68 = some (.struct (Tryz.prog.fieldsOf 68)) := by kernel_rfl
 have hp : Tryz.prog.stoodInHeld 68 = false := by kernel_rfl
 have u3 := Tryz.underlying2; have u4 := Tryz.underlying9; have a3 := Tryz.isAgg2; have a4 := Tryz.isAgg9; have a5 := Tryz.isAgg66; have z3 := Tryz.sizeOf2; have z4 := Tryz.sizeOf9; have z5 := Tryz.sizeOf66; have hk := fun w => equal_key8 w a b d e
 rw [show (9999 : Nat) = 9998 + 1 from rfl, run_equalIn_agg w 9998 68 _ _ hS hp]; simp only [Program.fieldsOf, Tryz.underlying68]; clear hS hp; unfold eqR; have hv : ∀ w : World, (Op.equalIn 9998 2 (.int .i64 c) (.int .i64 f)).run Tryz.prog w = .ok (c == f) w := fun w => run_equalIn_int w 9997 2 .i64 .i64 c f u3
 have hs : ∀ w : World, (Op.equalIn 9998 9 (.string s) (.string u)).run Tryz.prog w = .ok (s.toList == u.toList) w := fun w => run_equalIn_string w 9997 9 s u u4
 have x1 : (#[Value.int .i64 a, .int .u16 b, .int .i64 c, .string s].extract 0 2) = #[Value.int .i64 a, .int .u16 b] := rfl; have x2 : (#[Value.int .i64 d, .int .u16 e, .int .i64 f, .string u].extract 0 2) = #[Value.int .i64 d, .int .u16 e] := rfl; have t1 : (#[Value.int .i64 a, .int .u16 b, .int .i64 c, .string s])[2]? = some (.int .i64 c) := rfl; have t2 : (#[Value.int .i64 d, .int .u16 e, .int .i64 f, .string u])[2]? = some (.int .i64 f) := rfl; have t3 : (#[Value.int .i64 a, .int .u16 b, .int .i64 c, .string s])[3]? = some (.string s) := rfl; have t4 : (#[Value.int .i64 d, .int .u16 e, .int .i64 f, .string u])[3]? = some (.string u) := rfl; have n1 : ("Key" : String) ≠ "_" := by decide
 have n2 : ("Val" : String) ≠ "_" := by decide
 have n3 : ("Note" : String) ≠ "_" := by decide
 simp only [Op.eqFields, part, a5, z5, a3, a4, hk, hv, hs, x1, x2, t1, t2, t3, t4, if_pos n1, if_pos n2, if_pos n3, Sem.run_bind, Sem.run_ite, Sem.run_pure, Result.andThen_ok, Nat.zero_add, Bool.false_eq_true, if_false, if_true]; generalize (s.toList == u.toList) = g
 by_cases h1 : a = d <;> by_cases h2 : b = e <;> by_cases h3 : c = f <;> simp [h1, h2, h3]
 cases g <;> rfl
theorem neq_step (w : World) (k1 a b c : Int) (s : ByteArray) (y1 k2 d e f : Int) (u : ByteArray) (y2 : Int) : (binOp .neq 70 (.agg #[.int .i64 k1, .int .i64 a, .int .u16 b, .int .i64 c, .string s, .int .i64 y1]) (.agg #[.int .i64 k2, .int .i64 d, .int .u16 e, .int .i64 f, .string u, .int .i64 y2])).run Tryz.prog w = .ok (.bool (!eqS ⟨k1, ⟨⟨a, b⟩, c, s⟩, y1⟩ ⟨k2, ⟨⟨d, e⟩, f, u⟩, y2⟩)) w := by
 have hS : Tryz.prog.underlying 70 = some (.struct (Tryz.prog.fieldsOf 70)) := by kernel_rfl
 have hp : Tryz.prog.stoodInHeld 70 = false := by kernel_rfl
 have u3 := Tryz.underlying2; have u4 := Tryz.underlying3; have a3 := Tryz.isAgg2; have a4 := Tryz.isAgg3; have a5 := Tryz.isAgg68; have z3 := Tryz.sizeOf2; have z4 := Tryz.sizeOf3; have z5 := Tryz.sizeOf68; have hk := fun w => equal_row9 w a b c s d e f u
 rw [run_neq_struct, show (10000 : Nat) = 9999 + 1 from rfl, run_equalIn_agg w 9999 70 _ _ hS hp]; simp only [Program.fieldsOf, Tryz.underlying70]; clear hS hp; unfold eqS; have hv : ∀ w : World, (Op.equalIn 9999 2 (.int .i64 y1) (.int .i64 y2)).run Tryz.prog w = .ok (y1 == y2) w := fun w => run_equalIn_int w 9998 2 .i64 .i64 y1 y2 u3
 have hs : ∀ w : World, (Op.equalIn 9999 3 (.int .i64 k1) (.int .i64 k2)).run Tryz.prog w = .ok (k1 == k2) w := fun w => run_equalIn_int w 9998 3 .i64 .i64 k1 k2 u4
 have x1 : (#[Value.int .i64 k1, .int .i64 a, .int .u16 b, .int .i64 c, .string s, .int .i64 y1].extract 1 5) = #[Value.int .i64 a, .int .u16 b, .int .i64 c, .string s] := rfl; have x2 : (#[Value.int .i64 k2, .int .i64 d, .int .u16 e, .int .i64 f, .string u, .int .i64 y2].extract 1 5) = #[Value.int .i64 d, .int .u16 e, .int .i64 f, .string u] := rfl; have t1 : (#[Value.int .i64 k1, .int .i64 a, .int .u16 b, .int .i64 c, .string s, .int .i64 y1])[0]? = some (.int .i64 k1) := rfl; have t2 : (#[Value.int .i64 k2, .int .i64 d, .int .u16 e, .int .i64 f, .string u, .int .i64 y2])[0]? = some (.int .i64 k2) := rfl; have t3 : (#[Value.int .i64 k1, .int .i64 a, .int .u16 b, .int .i64 c, .string s, .int .i64 y1])[5]? = some (.int .i64 y1) := rfl; have t4 : (#[Value.int .i64 k2, .int .i64 d, .int .u16 e, .int .i64 f, .string u, .int .i64 y2])[5]? = some (.int .i64 y2) := rfl; have n1 : ("Kind" : String) ≠ "_" := by decide
 have n2 : ("Row" : String) ≠ "_" := by decide
 have n3 : ("By" : String) ≠ "_" := by decide
 simp only [Op.eqFields, part, a5, z5, a3, a4, z3, z4, hk, hv, hs, x1, x2, t1, t2, t3, t4, if_pos n1, if_pos n2, if_pos n3, Sem.run_bind, Sem.run_ite, Sem.run_pure, Result.andThen_ok, Nat.zero_add, Nat.reduceAdd, Bool.false_eq_true, if_false, if_true]; generalize eqR ⟨⟨a, b⟩, c, s⟩ ⟨⟨d, e⟩, f, u⟩ = g
 by_cases h1 : k1 = k2 <;> by_cases h2 : y1 = y2 <;> cases g <;> simp [h1, h2]
set_option maxRecDepth 100000 in
set_option maxHeartbeats 2000000 in
theorem equalStep_any (q1 : Option Addr) (n1 c1 : Nat) (l : List StepD) (q2 : Option Addr) (n2 c2 : Nat) (m : List StepD) (w : World) (h1 : SlOn w q1 n1 c1 l) (h2 : SlOn w q2 n2 c2 m) (m1 : n1 ≤ maxLen) (m2 : n2 ≤ maxLen) :
 Calls Tryz.prog 38 #[.slice q1 n1 c1, .slice q2 n2 c2] w (fun e w' => e = .returned (.bool (sameB eqS l m)) ∧ Below w.heap.size w w') := by
 unfold maxLen at m1 m2; have g1 := lh h1; have g2 := lh h2; clear h1 h2
 by_cases hn : n1 = n2
 · subst hn; have hT : Hid ((∀ (i : Nat) a b, i < n1 → l[i]? = some a → m[i]? = some b → eqS a b = true) → sameB eqS l m = true) := fun h => sameB_of (by rw [g1.out.len, g2.out.len]) (fun i a b ha hb => h i a b (by have := (List.getElem?_eq_some_iff.1 ha).1; have := g1.out.len; omega) ha hb)
   have hF : Hid (∀ (i : Nat) a b, l[i]? = some a → m[i]? = some b → eqS a b = false → sameB eqS l m = false) := fun i a b ha hb h => sameB_at ha hb h
   obtain ⟨E, hE⟩ : ∃ E, sameB eqS l m = E := ⟨_, rfl⟩; rw [hE] at hT hF ⊢; clear hE
   go_enter Tryz.func38, Tryz.ntmps38
   go_wp2
   go_loopw [13] (fun v13 wr => ∃ k : Nat, k ≤ n1 ∧ v13 = .int .i64 k ∧ Hid (Below w.heap.size w wr) ∧ Hid (∀ (i : Nat) a b, i < k → l[i]? = some a → m[i]? = some b → eqS a b = true)) (fun v13 _ => n1 - (RowKit.intOf v13).toNat)
   case atStart => exact ⟨0, Nat.zero_le _, rfl, (show Below _ _ _ from Below.refl _ _), fun i a b hi => by omega⟩
   case round =>
    obtain ⟨k, hk, rfl, hb, hp⟩ := hrel
    by_cases hlt : k < n1
    · obtain ⟨A, ⟨k1, ⟨⟨a1, a2⟩, a3, s1⟩, y1⟩, hqA, hx, hcA⟩ := (g1.out.below hb.out (Nat.le_refl _)).at hlt; obtain ⟨B, ⟨k2, ⟨⟨b1, b2⟩, b3, s2⟩, y2⟩, hqB, hy, hcB⟩ := (g2.out.below hb.out (Nat.le_refl _)).at hlt; subst hqA; subst hqB; have hcA : ∀ j' x, ([.int .i64 k1, .int .i64 a1, .int .u16 a2, .int .i64 a3, .string s1, .int .i64 y1] : List Value)[j']? = some x → wr.cell? ((A.add (k * 6)).add j') = some x := hcA; have hcB : ∀ j' x, ([.int .i64 k2, .int .i64 b1, .int .u16 b2, .int .i64 b3, .string s2, .int .i64 y2] : List Value)[j']? = some x → wr.cell? ((B.add (k * 6)).add j') = some x := hcB; have p0 : wr.cell? (A.add (k * 6)) = some (.int .i64 k1) := by have h := hcA 0 _ rfl; rwa [add0] at h
      have q0 : wr.cell? (B.add (k * 6)) = some (.int .i64 k2) := by have h := hcB 0 _ rfl; rwa [add0] at h
      have p1 : wr.cell? ⟨(A.add (k * 6)).block, (A.add (k * 6)).off + 1, none⟩ = some (.int .i64 a1) := hcA 1 _ rfl; have q1 : wr.cell? ⟨(B.add (k * 6)).block, (B.add (k * 6)).off + 1, none⟩ = some (.int .i64 b1) := hcB 1 _ rfl; have p2 : wr.cell? ⟨(A.add (k * 6)).block, (A.add (k * 6)).off + 2, none⟩ = some (.int .u16 a2) := hcA 2 _ rfl; have q2 : wr.cell? ⟨(B.add (k * 6)).block, (B.add (k * 6)).off + 2, none⟩ = some (.int .u16 b2) := hcB 2 _ rfl; have p3 : wr.cell? ⟨(A.add (k * 6)).block, (A.add (k * 6)).off + 3, none⟩ = some (.int .i64 a3) := hcA 3 _ rfl; have q3 : wr.cell? ⟨(B.add (k * 6)).block, (B.add (k * 6)).off + 3, none⟩ = some (.int .i64 b3) := hcB 3 _ rfl; have p4 : wr.cell? ⟨(A.add (k * 6)).block, (A.add (k * 6)).off + 4, none⟩ = some (.string s1) := hcA 4 _ rfl; have q4 : wr.cell? ⟨(B.add (k * 6)).block, (B.add (k * 6)).off + 4, none⟩ = some (.string s2) := hcB 4 _ rfl; have p5 : wr.cell? ⟨(A.add (k * 6)).block, (A.add (k * 6)).off + 5, none⟩ = some (.int .i64 y1) := hcA 5 _ rfl
      have q5 : wr.cell? ⟨(B.add (k * 6)).block, (B.add (k * 6)).off + 5, none⟩ = some (.int .i64 y2) := hcB 5 _ rfl; have hx' := lh hx; have hy' := lh hy; have i0 : (0 : Int) ≤ k := by omega
      have i1 : (k : Int) < n1 := by omega
      clear hx hy hcA hcB; have hne := fun u => neq_step u k1 a1 a2 a3 s1 y1 k2 b1 b2 b3 s2 y2
      obtain ⟨b, hbv⟩ : ∃ b, eqS ⟨k1, ⟨⟨a1, a2⟩, a3, s1⟩, y1⟩ ⟨k2, ⟨⟨b1, b2⟩, b3, s2⟩, y2⟩ = b := ⟨_, rfl⟩; rw [hbv] at hne; have hbv' := lh hbv; clear hbv; cases b with
      | true =>
        go_wp2
        go_quiet (fail)
        clear hne p0 q0 p1 q1 p2 q2 p3 q3 p4 q4 p5 q5; go_wp2
        go_roundw
        case rel =>
         refine ⟨k + 1, by omega, by go_num, (show Below _ _ _ from hb.out.trans ((below_drewN _ _).mono hb.out.size)), fun i a b hi ha hb2 => ?_⟩; rcases Nat.lt_or_ge i k with h | h
         · exact hp.out i a b h ha hb2
         · obtain rfl : i = k := by omega
           rw [hx'.out] at ha; rw [hy'.out] at hb2; cases ha; cases hb2; exact hbv'.out
        case measure => simp [RowKit.intOf]; omega
      | false =>
        go_wp2
        go_quiet (fail)
        clear hne p0 q0 p1 q1 p2 q2 p3 q3 p4 q4 p5 q5; go_wp2; go_ret; exact ⟨by rw [hF.out k _ _ hx'.out hy'.out hbv'.out]; rfl, hb.out.trans ((below_drewN _ _).mono hb.out.size)⟩
    · obtain rfl : n1 = k := by omega
      go_wp2; go_ret; exact ⟨by rw [hT.out hp.out]; rfl, hb.out⟩
 · have hs : sameB eqS l m = false := sameB_ne (by rw [g1.out.len, g2.out.len]; exact hn); rw [hs]; clear hs; have hn1 : ¬ (n1 : Int) = n2 := by omega
   have hn2 : decide (n1 = n2) = false := decide_eq_false hn
   go_enter Tryz.func38, Tryz.ntmps38
   go_wp2; go_ret; exact ⟨rfl, Below.refl _ _⟩
end Go.Proofs.YtocekhckmpkbmaaGreat
