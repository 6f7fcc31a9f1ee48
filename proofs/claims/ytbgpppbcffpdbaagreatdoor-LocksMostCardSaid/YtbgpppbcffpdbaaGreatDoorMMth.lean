/- Modes and sets of them as numbers: plain mathematics; and the first contracts: Check, areModes, setOf, holds, tables, keys. -/
import Derived.Test.YtbgpppbcffpdbaaGreatDoorRows
import Derived.WalkKit
import Derived.WalkSpells
import Derived.Handy
import Derived.Lib.Hide
import Derived.IntWalk
namespace Go.Proofs.YtbgpppbcffpdbaaGreatDoor
open Go.RowKit

def goesT : List Nat := [127, 31, 7, 11, 3, 1, 65]
def covT : List Nat := [1, 3, 7, 11, 31, 127, 65]
def gT (m : Nat) : Nat := goesT.getD m 0
def cT (m : Nat) : Nat := covT.getD m 0
def isM (m : Int) : Bool := decide (0 ≤ m ∧ m ≤ 6)
def hol (s o : Nat) : Bool := (s &&& o) == o
def setN (l : List Nat) : Nat := l.foldl (fun x m => x ||| 2 ^ m) 0
def allM (l : List Int) : Bool := l.all isM

theorem isM_nat {m : Int} (h : isM m = true) : ∃ n : Nat, n < 7 ∧ m = n := by
  have := of_decide_eq_true h
  exact ⟨m.toNat, by omega, by omega⟩
theorem isM_of {n : Nat} (h : n < 7) : isM (n : Int) = true := decide_eq_true (by omega)
theorem gT_lt : ∀ m, m < 7 → gT m < 128 := by decide
theorem cT_lt : ∀ m, m < 7 → cT m < 128 := by decide

theorem or_lt : ∀ x, x < 128 → ∀ m, m < 7 → x ||| 2 ^ m < 128 := by decide +kernel
theorem setN_lt' : ∀ (l : List Nat) (x : Nat), x < 128 → (∀ m ∈ l, m < 7) → l.foldl (fun x m => x ||| 2 ^ m) x < 128
  | [], _, h, _ => h
  | m :: l, x, h, hl => setN_lt' l _ (or_lt x h m (hl m (List.mem_cons_self ..))) (fun k hk => hl k (List.mem_cons_of_mem _ hk))
theorem setN_lt {l : List Nat} (hl : ∀ m ∈ l, m < 7) : setN l < 128 := setN_lt' l 0 (by decide) hl
theorem setN_snoc (l : List Nat) (m : Nat) : setN (l ++ [m]) = setN l ||| 2 ^ m := by simp [setN]

theorem allM_snoc (l : List Int) (m : Int) : allM (l ++ [m]) = (allM l && isM m) := by simp [allM]

theorem u8_or_nat (x y : Nat) (hx : x < 128) (hy : y < 128) : bits .or .u8 (x : Int) (y : Int) = ((x ||| y : Nat) : Int) := by
  have h : ∀ x : Nat, x < 128 → ∀ y : Nat, y < 128 → bits .or .u8 (x : Int) (y : Int) = ((x ||| y : Nat) : Int) := by decide +kernel
  exact h x hx y hy
theorem u8_and_nat' (x y : Nat) (hx : x < 128) (hy : y < 128) : bits .and .u8 (x : Int) (y : Int) = ((x &&& y : Nat) : Int) := by
  have h : ∀ x : Nat, x < 128 → ∀ y : Nat, y < 128 → bits .and .u8 (x : Int) (y : Int) = ((x &&& y : Nat) : Int) := by decide +kernel
  exact h x hx y hy

/-- the cells of a slice of ints -/
def Ints (w : World) (g : Nat) (l : List Int) : Prop := ∀ j m, l[j]? = some m → w.cell? ⟨g, j, none⟩ = some (.int .i64 m)
theorem Ints.built (w : World) (l : List Int) (T : TypeId) (cs : Array Value) (h : cs = (l.map (Value.int .i64)).toArray) : Ints (w.alloc (.cells cs T)) w.heap.size l := by
  subst h
  intro j m hj
  rw [cell_of_row _ w.heap.size j _ T (0, 0) (heap_alloc_new _ _)]
  simp [hj]

theorem check_no (m : Int) (w : World) (h : isM m = false) : Calls Tryz.prog 97 #[.int .i64 m] w (fun e w' => e = .returned (.int .i64 170) ∧ w = w') := by
  have hn : ¬ (0 ≤ m ∧ m ≤ 6) := of_decide_eq_false h
  clear h
  by_cases h0 : m < 0
  · have d0 : decide (m < 0) = true := decide_eq_true h0
    clear hn h0
    go_enter Tryz.func97, Tryz.ntmps97
    go_wp2
    go_ret
    exact ⟨rfl, rfl⟩
  · have d0 : decide (m < 0) = false := decide_eq_false h0
    have d1 : decide (7 ≤ m) = true := decide_eq_true (by omega)
    clear hn h0
    go_enter Tryz.func97, Tryz.ntmps97
    go_wp2
    go_ret
    exact ⟨rfl, rfl⟩
theorem check_ok (m : Int) (w : World) (h : isM m = true) : Calls Tryz.prog 97 #[.int .i64 m] w (fun e w' => e = .returned (.int .i64 0) ∧ w = w') := by
  have hn : 0 ≤ m ∧ m ≤ 6 := of_decide_eq_true h
  have d0 : decide (m < 0) = false := decide_eq_false (by omega)
  have d1 : decide (7 ≤ m) = false := decide_eq_false (by omega)
  clear h hn
  go_enter Tryz.func97, Tryz.ntmps97
  go_wp2
  go_ret
  exact ⟨rfl, rfl⟩

theorem holds_any (s o : Nat) (w : World) (hs : s < 128) (ho : o < 128) : Calls Tryz.prog 56 #[.int .u8 s, .int .u8 o] w (fun e w' => e = .returned (.bool (hol s o)) ∧ w = w') := by
  have ha := u8_and_nat' s o hs ho
  have he : hol s o = (((s &&& o : Nat) : Int) == (o : Int)) := by
    unfold hol
    rw [Bool.eq_iff_iff, beq_iff_eq, beq_iff_eq]
    omega
  rw [he]
  clear he
  go_enter Tryz.func56, Tryz.ntmps56
  go_wp2
  go_ret
  exact ⟨rfl, rfl⟩

theorem Ints.at {w : World} {g k : Nat} {l : List Int} (h : Ints w g l) (hk : k < l.length) : ∃ m, l[k]? = some m ∧ w.cell? ⟨g, k, none⟩ = some (.int .i64 m) :=
  ⟨l[k], List.getElem?_eq_getElem hk, h k _ (List.getElem?_eq_getElem hk)⟩
theorem allM_take {l : List Int} {k : Nat} {m : Int} (hk : l[k]? = some m) : allM (l.take (k + 1)) = (allM (l.take k) && isM m) := by
  rw [List.take_add_one, hk]; exact allM_snoc _ _
theorem allM_false {l : List Int} {k : Nat} {m : Int} (hk : l[k]? = some m) (h : isM m = false) : allM l = false := by
  unfold allM
  rw [List.all_eq_false]
  exact ⟨m, List.mem_of_getElem? hk, by rw [h]; exact Bool.false_ne_true⟩

theorem areModes_any (g n c : Nat) (l : List Int) (w : World) (hn : l.length = n) (h : Ints w g l) (h7 : n ≤ 7) :
    Calls Tryz.prog 55 #[.slice (some ⟨g, 0, none⟩) n c] w (fun e w' => e = .returned (.bool (allM l)) ∧ w = w') := by
  have hn1 := Lib.hid hn
  have h1 := Lib.hid h
  clear hn h
  go_enter Tryz.func55, Tryz.ntmps55
  go_wp2
  go_loop [7] (fun v7 => ∃ k : Nat, k ≤ n ∧ v7 = .int .i64 k ∧ Hid (allM (l.take k) = true)) (fun v7 => n - (intOf v7).toNat)
  case atStart => exact ⟨0, Nat.zero_le _, rfl, rfl⟩
  case round =>
    obtain ⟨k, hk, rfl, hr⟩ := hrel
    by_cases hlt : k < n
    · obtain ⟨m, hm, hc⟩ := h1.out.at (k := k) (by rw [hn1.out]; exact hlt)
      have hm1 := Lib.hid hm
      clear hm
      rcases Bool.eq_false_or_eq_true (isM m) with hi | hi
      · have hnx : Hid (allM (l.take (k + 1)) = true) := by show _ = _; rw [allM_take hm1.out, hr.out, hi]; rfl
        have ck1 := Lib.hid (check_ok m w hi)
        clear hi
        go_wp2_with (go_at_call 97; refine ck1.out.mono ?_; rintro e w2 ⟨rfl, rfl⟩)
        go_round
        case rel => exact ⟨k + 1, by omega, by go_num, hnx⟩
        case measure => simp [intOf]; omega
      · have hf := Lib.hid (allM_false hm1.out hi)
        have ck1 := Lib.hid (check_no m w hi)
        clear hi
        go_wp2_with (go_at_call 97; refine ck1.out.mono ?_; rintro e w2 ⟨rfl, rfl⟩)
        go_ret
        exact ⟨by rw [hf.out]; rfl, rfl⟩
    · obtain rfl : n = k := by omega
      have hf : Hid (allM l = true) := by
        have := hr.out
        rw [← hn1.out, List.take_length] at this
        exact this
      go_wp2
      go_ret
      exact ⟨by rw [hf.out]; rfl, rfl⟩

def cast (l : List Nat) : List Int := l.map fun m : Nat => (m : Int)

theorem setN_take {l : List Nat} {k m : Nat} (hk : l[k]? = some m) : setN (l.take (k + 1)) = setN (l.take k) ||| 2 ^ m := by
  rw [List.take_add_one, hk]; exact setN_snoc _ _

theorem cast_get {l : List Nat} {k : Nat} {m : Int} (h : (cast l)[k]? = some m) : ∃ n : Nat, l[k]? = some n ∧ m = n := by
  unfold cast at h
  rw [List.getElem?_map] at h
  obtain ⟨n, hn, rfl⟩ := Option.map_eq_some_iff.1 h
  exact ⟨n, hn, rfl⟩

theorem setOf_any (g n c : Nat) (l : List Nat) (w : World) (hn : l.length = n) (h : Ints w g (cast l)) (h7 : n ≤ 7) (hm7 : ∀ m ∈ l, m < 7) :
    Calls Tryz.prog 57 #[.slice (some ⟨g, 0, none⟩) n c] w (fun e w' => e = .returned (.int .u8 (setN l : Nat)) ∧ w = w') := by
  have hn1 := Lib.hid hn
  have h1 := Lib.hid h
  have h2 := Lib.hid hm7
  clear hn h hm7
  go_enter Tryz.func57, Tryz.ntmps57
  go_wp2
  go_loop [3, 8] (fun v3 v8 => ∃ k : Nat, k ≤ n ∧ v8 = .int .i64 k ∧ v3 = .int .u8 (setN (l.take k) : Nat)) (fun _ v8 => n - (intOf v8).toNat)
  case atStart => exact ⟨0, Nat.zero_le _, rfl, rfl⟩
  case round =>
    obtain ⟨k, hk, rfl, rfl⟩ := hrel
    by_cases hlt : k < n
    · obtain ⟨x, hx, hc⟩ := h1.out.at (k := k) (by unfold cast; rw [List.length_map, hn1.out]; exact hlt)
      obtain ⟨m, hm, rfl⟩ := cast_get hx
      have hlm := h2.out m (List.mem_of_getElem? hm)
      have hnx : Hid (bits .or .u8 ((setN (l.take k) : Nat) : Int) ((2 ^ m : Nat) : Int) = ((setN (l.take (k + 1)) : Nat) : Int)) := by
        show _ = _
        rw [setN_take hm]
        refine u8_or_nat _ _ (setN_lt fun y hy => h2.out y (List.mem_of_mem_take hy)) ?_
        exact (by decide : ∀ m : Nat, m < 7 → 2 ^ m < 128) m hlm
      clear hx hm
      have hp : Hid ((2 : Int) ^ m % 256 = ((2 ^ m : Nat) : Int)) := (by decide : ∀ m : Nat, m < 7 → (2 : Int) ^ m % 256 = ((2 ^ m : Nat) : Int)) m hlm
      go_wp2
      go_round
      case rel => exact ⟨k + 1, by omega, by go_num, by rw [hp.out, hnx.out]⟩
      case measure => simp [intOf]; omega
    · obtain rfl : n = k := by omega
      have hf : Hid (setN (l.take n) = setN l) := by
        show _ = _
        rw [← hn1.out, List.take_length]
      go_wp2
      go_ret
      exact ⟨by rw [hf.out]; rfl, rfl⟩

theorem tables_any (w : World) : Calls Tryz.prog 142 #[] w (fun e w' => e = .returned (.int .u8 63) ∧ Below w.heap.size w w') := by
  have hb := Lib.hid ((Below.refl w.heap.size w).alloc (Nat.le_refl _) (.cells #[.int .i64 0, .int .i64 1, .int .i64 2, .int .i64 3, .int .i64 4, .int .i64 5] 3))
  have hs := Lib.hid (setOf_any w.heap.size 6 6 [0, 1, 2, 3, 4, 5] _ rfl (Ints.built w (cast [0, 1, 2, 3, 4, 5]) 3 #[.int .i64 0, .int .i64 1, .int .i64 2, .int .i64 3, .int .i64 4, .int .i64 5] rfl) (by decide) (by decide))
  go_enter Tryz.func142, Tryz.ntmps142
  go_wp2_with fail
  refine hs.out.mono ?_
  rintro e w2 ⟨rfl, rfl⟩
  go_wp2
  go_ret
  exact ⟨rfl, hb.out⟩
theorem keys_any (w : World) : Calls Tryz.prog 143 #[] w (fun e w' => e = .returned (.int .u8 105) ∧ Below w.heap.size w w') := by
  have hb := Lib.hid ((Below.refl w.heap.size w).alloc (Nat.le_refl _) (.cells #[.int .i64 0, .int .i64 3, .int .i64 6, .int .i64 5] 3))
  have hs := Lib.hid (setOf_any w.heap.size 4 4 [0, 3, 6, 5] _ rfl (Ints.built w (cast [0, 3, 6, 5]) 3 #[.int .i64 0, .int .i64 3, .int .i64 6, .int .i64 5] rfl) (by decide) (by decide))
  go_enter Tryz.func143, Tryz.ntmps143
  go_wp2_with fail
  refine hs.out.mono ?_
  rintro e w2 ⟨rfl, rfl⟩
  go_wp2
  go_ret
  exact ⟨rfl, hb.out⟩

end Go.Proofs.YtbgpppbcffpdbaaGreatDoor
