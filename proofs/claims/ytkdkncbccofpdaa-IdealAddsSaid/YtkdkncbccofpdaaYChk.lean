/- Check of row, and the document's Right: which schemas may be. -/
import Derived.Test.YtkdkncbccofpdaaYCmp
namespace Go.Proofs.Ytkdkncbccofpdaa
open Go.RowKit

def okS (bs : List BdD) : Bool := decide (1 ≤ bs.length) && (decide (bs.length ≤ 3) && bs.all fun b => decide (b.lo ≤ b.hi))
def schE (bs : List BdD) : Int := if okS bs = true then 0 else 150
theorem okS_iff (bs : List BdD) : okS bs = true ↔ 1 ≤ bs.length ∧ bs.length ≤ 3 ∧ ∀ (i : Nat) (b : BdD), bs[i]? = some b → b.lo ≤ b.hi := by
  unfold okS
  simp only [Bool.and_eq_true, decide_eq_true_eq, List.all_eq_true]
  constructor
  · rintro ⟨h1, h2, h3⟩
    exact ⟨h1, h2, fun i b hb => h3 b (List.mem_of_getElem? hb)⟩
  · rintro ⟨h1, h2, h3⟩
    refine ⟨h1, h2, fun b hb => ?_⟩
    obtain ⟨i, hi⟩ := List.mem_iff_getElem?.1 hb
    exact h3 i b hi
theorem schE_no {bs : List BdD} (h : ¬ okS bs = true) : schE bs = 150 := if_neg h
theorem schE_ok {bs : List BdD} (h : okS bs = true) : schE bs = 0 := if_pos h
theorem sizeBd (lo hi : Int) : (Try.prog.info? 75).map (·.size) = some [Value.int .i64 lo, Value.int .i64 hi].length := by kernel_rfl
theorem sizeRow (t id v : Int) (s : ByteArray) : (Try.prog.info? 68).map (·.size) = some [Value.int .i64 t, Value.int .u16 id, Value.int .i64 v, Value.string s].length := by kernel_rfl
theorem sizeKey (t id : Int) : (Try.prog.info? 28).map (·.size) = some [Value.int .i64 t, Value.int .u16 id].length := by kernel_rfl

def ChkRel (w wr : World) (bs : List BdD) (k : Nat) : Prop := Below w.heap.size w wr ∧ ∀ (i : Nat) (b : BdD), i < k → bs[i]? = some b → b.lo ≤ b.hi

set_option maxHeartbeats 1000000 in
theorem check_any (q : Option Addr) (n c : Nat) (bs : List BdD) (w : World) (h : SchOn w q n c bs) :
    Calls Try.prog 39 #[.agg #[.slice q n c]] w (fun e w' => e = .returned (.int .i64 (schE bs)) ∧ Below w.heap.size w w') := by
  have hl := h.len
  have hm := Nat.le_trans h.le h.cap
  unfold maxLen at hm
  have h1 := Lib.hid h
  clear h
  by_cases hn : 1 ≤ n ∧ n ≤ 3
  · obtain ⟨ha, hb⟩ := hn
    have hS0 : Hid (∀ W, Below w.heap.size w W → (∀ (i : Nat) (b : BdD), i < n → bs[i]? = some b → b.lo ≤ b.hi) → schE bs = 0) := fun W _ hk => schE_ok ((okS_iff bs).2 ⟨by omega, by omega, fun i b hi => hk i b (by have := (List.getElem?_eq_some_iff.1 hi).1; omega) hi⟩)
    have hS1 : Hid (∀ (i : Nat) (b : BdD), bs[i]? = some b → ¬ b.lo ≤ b.hi → schE bs = 150) := fun i b hi hlt => schE_no fun hk => hlt (((okS_iff bs).1 hk).2.2 i b hi)
    have hll := Lib.hid hl
    clear hl
    have hr0 : Hid (ChkRel w (w.alloc (.cells #[.slice q n c] 24)) bs 0) := ⟨(Below.refl _ _).alloc (Nat.le_refl _) _, fun i b hi => by omega⟩
    go_enter Try.func39, Try.ntmps39
    go_wp2
    go_loopw [18] (fun v18 wr => ∃ k : Nat, k ≤ n ∧ v18 = .int .i64 k ∧ Hid (ChkRel w wr bs k)) (fun v18 _ => n - (intOf v18).toNat)
    case atStart => exact ⟨0, Nat.zero_le _, rfl, hr0⟩
    case round =>
      obtain ⟨k, hk, rfl, hr⟩ := hrel
      by_cases hlt : k < n
      · obtain ⟨a, ⟨lo, hi⟩, rfl, hx, hok, hc⟩ := (h1.out.below hr.out.1 (Nat.le_refl _)).at hlt
        have hcell : Hid (∀ j x, ([.int .i64 lo, .int .i64 hi] : List Value)[j]? = some x → wr.cell? ((a.add (k * 2)).add j) = some x) := hc
        have hx' := Lib.hid hx
        clear hc hx hok
        by_cases hle : lo ≤ hi
        · go_wp2_with (first | (with_reducible refine wpList_load_at rfl 75 (.tmp 20) rfl Try.underlying75 rfl (sizeBd lo hi) rfl hcell.out ?_))
          go_roundw
          case rel =>
            refine ⟨k + 1, by omega, by go_num, ⟨?_, fun i b hi hb => ?_⟩⟩
            · exact hr.out.1.alloc hr.out.1.size _
            · rcases Nat.lt_or_ge i k with h | h
              · exact hr.out.2 i b h hb
              · obtain rfl : i = k := by omega
                rw [hx'.out] at hb; cases hb; exact hle
          case measure => simp [intOf]; omega
        · have hgt : hi < lo := by omega
          go_wp2_with (first | (with_reducible refine wpList_load_at rfl 75 (.tmp 20) rfl Try.underlying75 rfl (sizeBd lo hi) rfl hcell.out ?_))
          go_ret
          exact ⟨ret_i (hS1.out k _ hx'.out hle).symm, hr.out.1.alloc hr.out.1.size _⟩
      · obtain rfl : n = k := by omega
        go_wp2
        go_ret
        exact ⟨ret_i (hS0.out wr hr.out.1 hr.out.2).symm, hr.out.1⟩
  · have hS : schE bs = 150 := schE_no fun hk => hn ⟨by rw [← hl]; exact ((okS_iff bs).1 hk).1, by rw [← hl]; exact ((okS_iff bs).1 hk).2.1⟩
    rw [hS]
    clear hS hl
    by_cases h0 : n < 1
    · go_enter Try.func39, Try.ntmps39
      go_wp2
      go_ret
      exact ⟨rfl, by go_grown⟩
    · have h3 : 3 < n := by omega
      go_enter Try.func39, Try.ntmps39
      go_wp2
      go_ret
      exact ⟨rfl, by go_grown⟩
end Go.Proofs.Ytkdkncbccofpdaa
