/- The document's small functions on locks: numbers, things, modes, order, what one holds, who goes. -/
import Derived.Test.YtbgpppbcffpdbaaGreatDoorLTo
import Derived.Test.YtbgpppbcffpdbaaGreatDoorMRef
import Derived.Test.YtbgpppbcffpdbaaGreatDoorHeld
namespace Go.Proofs.YtbgpppbcffpdbaaGreatDoor
open Go.RowKit

section
variable {P : Program} {ops : Array Oper} {Q : Exit → Act → World → Prop} {md : Region.Mode} {S : World → Prop}
/-- held_take, what a reader need not see asked last -/
theorem held_tk {i : Nat} {o : Oper} {dst : Option Tmp} (hd : o.dst = dst) {v : Value} {fuel : Nat} {listed : Array Bool} {a : Act} {w : World} (hi : ops[i]? = some o) (hy : YieldsIf P ops S o v a) (hS : S w)
    (h : wpAnyH P md ops Q S fuel (listed.setIfInBounds i true) (a.put dst v) w)
    (hs : Region.noSelect ops = true := by kernel_rfl) (hf : Region.free md ops listed i = true := by kernel_rfl) (hr : (Region.ready md ops listed).contains i = true := by kernel_rfl)
    (hQ : ∀ c a w, Q (.panic c) (a.put o.dst v) w → Q (.panic c) a w := by exact fun _ _ _ h => h) : wpAnyH P md ops Q S (fuel + 1) listed a w :=
  held_take hd hi hs hf hr hQ hy hS h
end
theorem rtxn_any (n : Int) (w : World) (b : Bool) (hb : txnB n = b) : Calls Tryz.prog 74 #[.int .i64 n] w (fun e w' => e = .returned (.bool b) ∧ w' = w) := by
  unfold txnB at hb
  by_cases h1 : 1 ≤ n
  · by_cases h2 : n ≤ 1073741824
    · obtain rfl : true = b := by rw [← hb]; simp [h1, h2]
      go_enter Tryz.func74, Tryz.ntmps74
      go_wp2
      go_ret
      exact ⟨rfl, rfl⟩
    · obtain rfl : false = b := by rw [← hb]; simp [h1, h2]
      go_enter Tryz.func74, Tryz.ntmps74
      go_wp2
      go_ret
      exact ⟨rfl, rfl⟩
  · obtain rfl : false = b := by rw [← hb]; simp [h1]
    go_enter Tryz.func74, Tryz.ntmps74
    go_wp2
    go_ret
    exact ⟨rfl, rfl⟩
theorem rgoes_any (a b : Int) (w : World) (v : Bool) (hv : goesB a b = v) : Calls Tryz.prog 52 #[.int .i64 a, .int .i64 b] w (fun e w' => e = .returned (.bool v) ∧ w' = w) :=
  (rg_any a b w).mono fun _ _ ⟨h1, h2⟩ => ⟨by rw [h1, ← goesB_eq, hv], h2.symm⟩
theorem rcov_any (a b : Int) (w : World) (v : Bool) (hv : covB a b = v) : Calls Tryz.prog 78 #[.int .i64 a, .int .i64 b] w (fun e w' => e = .returned (.bool v) ∧ w' = w) :=
  (rc_any a b w).mono fun _ _ ⟨h1, h2⟩ => ⟨by rw [h1, ← covB_eq, hv], h2.symm⟩
theorem rofK_any (m : Int) (w : World) : Calls Tryz.prog 117 #[.int .i64 m] w (fun e w' => e = .returned (.bool (ofK m)) ∧ w' = w) :=
  (rkey_any m w).mono fun _ _ ⟨h1, h2⟩ => ⟨h1, h2.symm⟩
theorem rofT_any (m : Int) (w : World) : Calls Tryz.prog 118 #[.int .i64 m] w (fun e w' => e = .returned (.bool (ofT m)) ∧ w' = w) :=
  (rtab_any m w).mono fun _ _ ⟨h1, h2⟩ => ⟨h1, h2.symm⟩
theorem rres_any (t : Int) (k : Bool) (id : Int) (w : World) (b : Bool) (hb : resB ⟨t, k, id⟩ = b) : Calls Tryz.prog 76 #[.agg #[.int .i64 t, .bool k, .int .u16 id]] w (fun e w' => e = .returned (.bool b) ∧ Below w.heap.size w w') := by
  unfold resB at hb
  simp only at hb
  by_cases h1 : 0 ≤ t
  · by_cases h2 : t < 3
    · cases k with
      | true =>
        obtain rfl : true = b := by rw [← hb]; simp [h1, h2]
        go_enter Tryz.func76, Tryz.ntmps76
        go_wp2
        go_ret
        exact ⟨rfl, by go_grown⟩
      | false =>
        by_cases h3 : id = 0
        · subst h3
          obtain rfl : true = b := by rw [← hb]; simp [h1, h2]
          go_enter Tryz.func76, Tryz.ntmps76
          go_wp2
          go_ret
          exact ⟨rfl, by go_grown⟩
        · obtain rfl : false = b := by rw [← hb]; simp [h1, h2, h3]
          go_enter Tryz.func76, Tryz.ntmps76
          go_wp2
          go_ret
          exact ⟨ret_b (by simp [h3]), by go_grown⟩
    · obtain rfl : false = b := by rw [← hb]; simp [h2]
      go_enter Tryz.func76, Tryz.ntmps76
      go_wp2
      go_ret
      exact ⟨rfl, by go_grown⟩
  · obtain rfl : false = b := by rw [← hb]; simp [h1]
    go_enter Tryz.func76, Tryz.ntmps76
    go_wp2
    go_ret
    exact ⟨rfl, by go_grown⟩
theorem rmode_any (t : Int) (k : Bool) (id m : Int) (w : World) (b : Bool) (hb : modB k m = b) : Calls Tryz.prog 77 #[.agg #[.int .i64 t, .bool k, .int .u16 id], .int .i64 m] w (fun e w' => e = .returned (.bool b) ∧ Below w.heap.size w w') := by
  unfold modB at hb
  by_cases h1 : m = 0
  · subst h1
    obtain rfl : false = b := by rw [← hb]; simp
    go_enter Tryz.func77, Tryz.ntmps77
    go_wp2
    go_ret
    exact ⟨rfl, by go_grown⟩
  · rw [if_neg h1] at hb
    have hm0 : (m == 0) = false := by simpa using h1
    clear h1
    obtain ⟨W, hW⟩ : ∃ W, w.alloc (.cells #[.int .i64 t, .bool k, .int .u16 id] 30) = W := ⟨_, rfl⟩
    have hbx := Lib.hid (one_box (xs := [.int .i64 t, .bool k, .int .u16 id]) hW)
    cases k with
    | true =>
      have c1 := hbx.out.2.1.cell 1 rfl
      simp only [if_true] at hb
      go_enter Tryz.func77, Tryz.ntmps77
      go_wp2_with (first
        | (go_at_call 117
           refine (rofK_any m W).mono ?_
           rw [hb]
           rintro e w1 ⟨rfl, hwu⟩
           obtain rfl := hwu.symm))
      go_ret
      exact ⟨rfl, hbx.out.1⟩
    | false =>
      have c1 := hbx.out.2.1.cell 1 rfl
      simp only [Bool.false_eq_true, if_false] at hb
      go_enter Tryz.func77, Tryz.ntmps77
      go_wp2_with (first
        | (go_at_call 118
           refine (rofT_any m W).mono ?_
           rw [hb]
           rintro e w1 ⟨rfl, hwu⟩
           obtain rfl := hwu.symm))
      go_ret
      exact ⟨rfl, hbx.out.1⟩
def ordI (r : ResD) : Int := r.t * 100000 + (if r.k then 1 + r.id else 0)
theorem rorder_any (t : Int) (k : Bool) (id : Int) (w : World) (n : Int) (hn : ordI ⟨t, k, id⟩ = n) (t0 : 0 ≤ t) (t3 : t < 3) (g0 : 0 ≤ id) (g1 : id < 65536) : Calls Tryz.prog 37 #[.agg #[.int .i64 t, .bool k, .int .u16 id]] w (fun e w' => e = .returned (.int .i64 n) ∧ Below w.heap.size w w') := by
  unfold ordI at hn
  simp only at hn
  cases k with
  | true =>
    simp only [if_true] at hn
    go_enter Tryz.func37, Tryz.ntmps37
    go_wp2
    go_ret
    exact ⟨by rw [← hn]; go_num, by go_grown⟩
  | false =>
    simp only [Bool.false_eq_true, if_false] at hn
    go_enter Tryz.func37, Tryz.ntmps37
    go_wp2
    go_ret
    exact ⟨by rw [← hn, Int.add_zero]; rfl, by go_grown⟩
theorem ordI_lt {a b : ResD} (oa : a.ok) (ob : b.ok) : ordI a < ordI b ↔ cmpR a b < 0 := by
  unfold ResD.ok at oa ob
  unfold ordI cmpR inT orI
  rcases cmpI_cases a.t b.t with ⟨h1, h2⟩ | ⟨h1, h2⟩ | ⟨h1, h2⟩ <;> rw [h2] <;> rcases cmpI_cases (if a.k = true then 1 + a.id else 0) (if b.k = true then 1 + b.id else 0) with ⟨h3, h4⟩ | ⟨h3, h4⟩ | ⟨h3, h4⟩ <;> rw [h4] <;> (cases hka : a.k <;> cases hkb : b.k <;> simp only [hka, hkb, if_true, if_false, Bool.false_eq_true] at h3 ⊢ <;> simp <;> omega)
/-- what the first of that number holds -/
def heldF (hs : List HoldD) (x : Int) : Int := match hs.find? (fun h => h.x == x) with
  | some h => h.m
  | none => 0
theorem heldF_some {hs : List HoldD} {x : Int} {i : Nat} {h : HoldD} (hi : hs[i]? = some h) (hx : h.x = x) (hb : ∀ j a, j < i → hs[j]? = some a → a.x ≠ x) : heldF hs x = h.m := by
  unfold heldF
  induction hs generalizing i with
  | nil => simp at hi
  | cons a hs ih =>
    rw [List.find?_cons]
    cases i with
    | zero => simp at hi; subst hi; simp [hx]
    | succ i =>
      have h0 : (a.x == x) = false := by have := hb 0 a (by omega) rfl; simpa using this
      rw [h0]
      exact ih (i := i) (by simpa using hi) (fun j b hj hb' => hb (j + 1) b (by omega) (by simpa using hb'))
theorem heldF_none {hs : List HoldD} {x : Int} (hb : ∀ (j : Nat) a, hs[j]? = some a → a.x ≠ x) : heldF hs x = 0 := by
  unfold heldF
  rw [List.find?_eq_none.2 (fun a ha => by obtain ⟨j, hj⟩ := List.mem_iff_getElem?.1 ha; simpa using hb j a hj)]
theorem heldF_eq {hs : List HoldD} (h : SortH hs) (x : Int) : heldF hs x = heldH hs x := by
  rcases held_or h x with ⟨a, ha, hx, he⟩ | ⟨hn, he⟩
  · rw [he]
    unfold heldF
    cases hf : hs.find? (fun h => h.x == x) with
    | none => have := List.find?_eq_none.1 hf a ha; simp [hx] at this
    | some b =>
      have h1 := List.mem_of_find?_eq_some hf
      have h2 := List.find?_some hf
      simp at h2
      have h3 := held_mem h h1 h2
      rw [he] at h3
      exact h3.symm
  · rw [he]
    exact heldF_none (fun j a hj => hn a (List.mem_of_getElem? hj))

set_option maxRecDepth 100000 in
set_option maxHeartbeats 4000000 in
theorem rheld_any (t : Int) (k : Bool) (id : Int) (hq : Option Addr) (hn hc : Nat) (wq : Option Addr) (wn wc : Nat) (hs : List HoldD) (x m : Int) (w : World) (h : SlOn w hq hn hc hs) (hm0 : heldF hs x = m) :
    Calls Tryz.prog 51 #[.agg #[.int .i64 t, .bool k, .int .u16 id, .slice hq hn hc, .slice wq wn wc], .int .i64 x] w (fun e w' => e = .returned (.int .i64 m) ∧ Below w.heap.size w w') := by
  obtain ⟨W, hW⟩ : ∃ W, w.alloc (.cells #[.int .i64 t, .bool k, .int .u16 id, .slice hq hn hc, .slice wq wn wc] 43) = W := ⟨_, rfl⟩
  have hb0 := Lib.hid (one_box (xs := [.int .i64 t, .bool k, .int .u16 id, .slice hq hn hc, .slice wq wn wc]) hW)
  have hh := Lib.hid (h.below hb0.out.1 (Nat.le_refl _))
  have c1 := hb0.out.2.1.cell 3 rfl
  have hnb : Hid (hn ≤ 9223372036854775807) := by show _ ≤ _; have h1 := h.le; have h2 := h.cap; unfold maxLen at h2; omega
  have hnb' := hnb.out
  clear h
  have hmm := Lib.hid hm0
  clear hm0
  go_enter Tryz.func51, Tryz.ntmps51
  go_wp2
  clear hW c1
  go_loopw [10] (fun v10 wr => ∃ i : Nat, i ≤ hn ∧ v10 = .int .i64 i ∧ Hid (∀ j a, j < i → hs[j]? = some a → a.x ≠ x) ∧ Hid (Below W.heap.size W wr)) (fun v10 _ => hn - (intOf v10).toNat)
  case atStart => exact ⟨0, Nat.zero_le _, rfl, Lib.hid (fun j a hj => by omega), Below.refl _ _⟩
  case round =>
    obtain ⟨i, hi, rfl, hne, hr⟩ := hrel
    obtain ⟨wo, rfl⟩ : ∃ u, u = wr := ⟨_, rfl⟩
    by_cases hlt : i < hn
    · obtain ⟨A, ⟨hx, hm⟩, hqA, hH, hcA⟩ := (hh.out.below hr.out (Nat.le_refl _)).at hlt
      subst hqA
      have hcell : Hid (∀ j' v, ([.int .i64 hx, .int .i64 hm] : List Value)[j']? = some v → wo.cell? ((A.add (i * 2)).add j') = some v) := fun j' v hj => hcA j' v hj
      have sh := sizeHold (.int .i64 hx) (.int .i64 hm)
      have i0 : (0 : Int) ≤ i := by omega
      have i1 : (i : Int) < hn := by omega
      obtain ⟨WA, hWA⟩ : ∃ W', wo.alloc (.cells #[.int .i64 hx, .int .i64 hm] 45) = W' := ⟨_, rfl⟩
      have hbA := Lib.hid (one_box (xs := [.int .i64 hx, .int .i64 hm]) hWA)
      have hbo := Lib.hid (below_step hbA.out.1 hr.out)
      have z0 := hbA.out.2.1.cell 0 rfl
      have z1 := hbA.out.2.1.cell 1 rfl
      have hH' := Lib.hid hH
      clear hcA hH
      by_cases hxe : hx = x
      · have hxb : (hx == x) = true := by simp [hxe]
        have hmx : Hid (hm = m) := by show _ = _; rw [← hmm.out]; exact (heldF_some hH'.out hxe hne.out).symm
        clear hxe
        go_wp2_with (first
          | (with_reducible refine wpList_load_at rfl 45 (.tmp 12) rfl Tryz.underlying45 rfl sh rfl hcell.out ?_))
        go_ret
        exact ⟨by rw [hmx.out]; rfl, below_step hbo.out hb0.out.1⟩
      · have hxb : (hx == x) = false := by simpa using hxe
        have hxn := Lib.hid hxe
        clear hxe
        go_wp2_with (first
          | (with_reducible refine wpList_load_at rfl 45 (.tmp 12) rfl Tryz.underlying45 rfl sh rfl hcell.out ?_))
        go_roundw
        case rel =>
          refine ⟨i + 1, by omega, by go_num, Lib.hid (fun j a hj ha => ?_), hbo.out⟩
          rcases Nat.lt_or_ge j i with h1 | h1
          · exact hne.out j a h1 ha
          · obtain rfl : j = i := by omega
            rw [hH'.out] at ha
            cases ha
            exact hxn.out
        case measure => simp [intOf]; omega
    · obtain rfl : hn = i := by omega
      have hz : Hid (m = 0) := by
        show _ = _
        rw [← hmm.out]
        refine heldF_none (fun j a hj => hne.out j a ?_ hj)
        have h1 := (List.getElem?_eq_some_iff.1 hj).1
        have h2 := hh.out.len
        omega
      go_wp2
      go_ret
      exact ⟨by rw [hz.out]; rfl, below_step hr.out hb0.out.1⟩
/-- whether a mode goes with what all others but one hold -/
def goesF (hs : List HoldD) (x m : Int) : Bool := hs.all (fun h => h.x == x || goesB h.m m)
theorem goesF_no {hs : List HoldD} {x m : Int} {i : Nat} {h : HoldD} (hi : hs[i]? = some h) (hx : (h.x == x) = false) (hg : goesB h.m m = false) : goesF hs x m = false := by
  unfold goesF
  rw [List.all_eq_false]
  exact ⟨h, List.mem_of_getElem? hi, by simp [hx, hg]⟩
theorem goesF_W (hs : List HoldD) (a : WaitD) : goesW hs a = goesF hs a.x a.m := by
  unfold goesW goesF hindB
  induction hs with
  | nil => rfl
  | cons h hs ih =>
    rw [List.any_cons, List.all_cons, Bool.not_or, ih]
    congr 1
    by_cases hx : h.x = a.x <;> cases goesB h.m a.m <;> simp [hx]

set_option maxRecDepth 100000 in
set_option maxHeartbeats 4000000 in
theorem rgo_any (t : Int) (k : Bool) (id : Int) (hq : Option Addr) (hn hc : Nat) (wq : Option Addr) (wn wc : Nat) (hs : List HoldD) (x m : Int) (b : Bool) (w : World) (h : SlOn w hq hn hc hs) (hb00 : goesF hs x m = b) :
    Calls Tryz.prog 80 #[.agg #[.int .i64 t, .bool k, .int .u16 id, .slice hq hn hc, .slice wq wn wc], .int .i64 x, .int .i64 m] w (fun e w' => e = .returned (.bool b) ∧ Below w.heap.size w w') := by
  obtain ⟨W, hW⟩ : ∃ W, w.alloc (.cells #[.int .i64 t, .bool k, .int .u16 id, .slice hq hn hc, .slice wq wn wc] 43) = W := ⟨_, rfl⟩
  have hb0 := Lib.hid (one_box (xs := [.int .i64 t, .bool k, .int .u16 id, .slice hq hn hc, .slice wq wn wc]) hW)
  have hh := Lib.hid (h.below hb0.out.1 (Nat.le_refl _))
  have c1 := hb0.out.2.1.cell 3 rfl
  have hnb : Hid (hn ≤ 9223372036854775807) := by show _ ≤ _; have h1 := h.le; have h2 := h.cap; unfold maxLen at h2; omega
  have hnb' := hnb.out
  clear h
  have hbb := Lib.hid hb00
  clear hb00
  go_enter Tryz.func80, Tryz.ntmps80
  go_wp2
  clear hW c1
  go_loopw [12] (fun v12 wr => ∃ i : Nat, i ≤ hn ∧ v12 = .int .i64 i ∧ Hid (∀ j a, j < i → hs[j]? = some a → (a.x == x || goesB a.m m) = true) ∧ Hid (Below W.heap.size W wr)) (fun v12 _ => hn - (intOf v12).toNat)
  case atStart => exact ⟨0, Nat.zero_le _, rfl, Lib.hid (fun j a hj => by omega), Below.refl _ _⟩
  case round =>
    obtain ⟨i, hi, rfl, hne, hr⟩ := hrel
    obtain ⟨wo, rfl⟩ : ∃ u, u = wr := ⟨_, rfl⟩
    by_cases hlt : i < hn
    · obtain ⟨A, ⟨hx, hm⟩, hqA, hH, hcA⟩ := (hh.out.below hr.out (Nat.le_refl _)).at hlt
      subst hqA
      have hcell : Hid (∀ j' v, ([.int .i64 hx, .int .i64 hm] : List Value)[j']? = some v → wo.cell? ((A.add (i * 2)).add j') = some v) := fun j' v hj => hcA j' v hj
      have sh := sizeHold (.int .i64 hx) (.int .i64 hm)
      have i0 : (0 : Int) ≤ i := by omega
      have i1 : (i : Int) < hn := by omega
      obtain ⟨WA, hWA⟩ : ∃ W', wo.alloc (.cells #[.int .i64 hx, .int .i64 hm] 45) = W' := ⟨_, rfl⟩
      have hbA := Lib.hid (one_box (xs := [.int .i64 hx, .int .i64 hm]) hWA)
      have hbo := Lib.hid (below_step hbA.out.1 hr.out)
      have z0 := hbA.out.2.1.cell 0 rfl
      have z1 := hbA.out.2.1.cell 1 rfl
      have hH' := Lib.hid hH
      clear hcA hH
      have hnext : (hx == x || goesB hm m) = true → Hid (∀ j a, j < i + 1 → hs[j]? = some a → (a.x == x || goesB a.m m) = true) := fun hg j a hj ha => by
        rcases Nat.lt_or_ge j i with h1 | h1
        · exact hne.out j a h1 ha
        · obtain rfl : j = i := by omega
          rw [hH'.out] at ha
          cases ha
          exact hg
      by_cases hxe : hx = x
      · have hxb : (hx == x) = true := by simp [hxe]
        have hxc : (hx != x) = false := by simp [hxe]
        have hnx := hnext (by rw [hxb, Bool.true_or])
        clear hxe hnext
        go_wp2_with (first
          | (with_reducible refine wpList_load_at rfl 45 (.tmp 14) rfl Tryz.underlying45 rfl sh rfl hcell.out ?_))
        go_roundw
        case rel => exact ⟨i + 1, by omega, by go_num, hnx, hbo.out⟩
        case measure => simp [intOf]; omega
      · have hxb : (hx == x) = false := by simpa using hxe
        have hxc : (hx != x) = true := by simpa using hxe
        clear hxe
        cases hg : goesB hm m with
        | true =>
          have hnx := hnext (by rw [hg, Bool.or_true])
          have hg' := Lib.hid hg
          clear hnext hg
          go_wp2_with (first
            | (with_reducible refine wpList_load_at rfl 45 (.tmp 14) rfl Tryz.underlying45 rfl sh rfl hcell.out ?_)
            | (go_at_call 52
               refine (rgoes_any hm m WA true hg'.out).mono ?_
               rintro e u ⟨rfl, hwu⟩
               obtain rfl := hwu.symm))
          go_roundw
          case rel => exact ⟨i + 1, by omega, by go_num, hnx, hbo.out⟩
          case measure => simp [intOf]; omega
        | false =>
          have hbf : Hid (b = false) := by show _ = _; rw [← hbb.out]; exact goesF_no hH'.out hxb hg
          have hg' := Lib.hid hg
          clear hnext hg
          go_wp2_with (first
            | (with_reducible refine wpList_load_at rfl 45 (.tmp 14) rfl Tryz.underlying45 rfl sh rfl hcell.out ?_)
            | (go_at_call 52
               refine (rgoes_any hm m WA false hg'.out).mono ?_
               rintro e u ⟨rfl, hwu⟩
               obtain rfl := hwu.symm))
          go_ret
          exact ⟨ret_b hbf.out.symm, below_step hbo.out hb0.out.1⟩
    · obtain rfl : hn = i := by omega
      have hbt : Hid (b = true) := by
        show _ = _
        rw [← hbb.out]
        unfold goesF
        rw [List.all_eq_true]
        intro a ha
        obtain ⟨j, hj⟩ := List.mem_iff_getElem?.1 ha
        have h1 := (List.getElem?_eq_some_iff.1 hj).1
        have h2 := hh.out.len
        exact hne.out j a (by omega) hj
      go_wp2
      go_ret
      exact ⟨ret_b hbt.out.symm, below_step hr.out hb0.out.1⟩
end Go.Proofs.YtbgpppbcffpdbaaGreatDoor
