/- What the ring ranges over: the first sectors, and noughts for them. -/
import Derived.Test.YtjhnagipagkhiaaGreatRTell
import Derived.Test.YtjhnagipagkhiaaGreatDiskC
namespace Go.Proofs.YtjhnagipagkhiaaGreat
open Go.RowKit Go.Maps Go.Sort Go.Shelf
attribute [local go_sem] Oper.semAt_some

def nums (n : Nat) : List (Array Value) := (List.range n).map fun i => #[.int .i64 (i : Nat)]
theorem nums_len (n : Nat) : (nums n).length = n := by simp [nums]
theorem nums_split {n i : Nat} (h : i < n) : nums n = (nums n).take i ++ #[.int .i64 (i : Nat)] :: (nums n).drop (i + 1) := by
  have hl : i < (nums n).length := by rw [nums_len]; exact h
  have e : (nums n)[i] = #[.int .i64 (i : Nat)] := by simp [nums]
  rw [← e, ← List.drop_eq_getElem_cons hl, List.take_append_drop]
theorem nums_next {n i : Nat} (h : i < n) : (nums n).take (i + 1) = (nums n).take i ++ [#[.int .i64 (i : Nat)]] := by
  have hl : i < (nums n).length := by rw [nums_len]; exact h
  have e : (nums n)[i] = #[.int .i64 (i : Nat)] := by simp [nums]
  rw [List.take_succ_eq_append_getElem hl, e]
theorem nums_mem {n : Nat} {x : Array Value} (h : x ∈ nums n) : ∃ i : Nat, x = #[.int .i64 (i : Nat)] ∧ i < n := by
  obtain ⟨i, hi, rfl⟩ := List.mem_map.1 h
  exact ⟨i, rfl, List.mem_range.1 hi⟩

set_option maxHeartbeats 1000000 in
theorem first_tells (B : Nat) (n : Nat) (hn : n < 9223372036854775808) (w : World) : Tells Tryz.prog 101 #[] #[.pointer (some ⟨B, 0, none⟩)] (fun W => W.cell? ⟨B, 0, none⟩ = some (.int .i64 n)) (nums n) w := by
  intro l J Jx hJ hJx hR _ h0 hY
  have c0 : w.cell? ⟨B, 0, none⟩ = some (.int .i64 n) := hR [] w h0
  have hY' := Lib.hid hY
  have hJ0 : Hid (J ((nums n).take 0) w ∧ w.heap.size ≤ w.heap.size) := ⟨by rw [List.take_zero]; exact h0, Nat.le_refl _⟩
  clear hY hR h0 hJ hJx
  refine callsIn_of_wp Tryz.func101 rfl trivial ?_ rfl
  simp only [Tryz.ntmps101, List.size_toArray, List.length_cons, List.length_nil, Nat.reduceAdd, Nat.reduceSub, Array.replicate_succ, Array.replicate_zero, List.push_toArray, List.append_toArray, List.nil_append, List.cons_append]
  gi_wp2
  gi_loopw [5] (fun v5 wr => ∃ i : Nat, i ≤ n ∧ v5 = .int .i64 i ∧ Hid (J ((nums n).take i) wr ∧ w.heap.size ≤ wr.heap.size)) (fun v5 _ => n - (RowKit.intOf v5).toNat)
  case atStart => exact ⟨0, by omega, rfl, hJ0⟩
  case round =>
    obtain ⟨i, hi, rfl, hJi⟩ := hrel
    by_cases hlt : i < n
    · obtain ⟨fn, tmps, assign, body, hy, hRd⟩ := hY'.out ((nums n).take i) #[.int .i64 (i : Nat)] ((nums n).drop (i + 1)) wr (nums_split hlt) hJi.out.2 hJi.out.1
      have hnx := Lib.hid (nums_next hlt)
      gi_wp2
      refine hRd.mono ?_
      rintro e W3 ⟨_, hz3, (⟨rfl, hJ3⟩ | ⟨rfl, hx⟩)⟩
      · have hJ4 : Hid (J ((nums n).take (i + 1)) W3 ∧ w.heap.size ≤ W3.heap.size) := ⟨by rw [hnx.out]; exact hJ3, Nat.le_trans hJi.out.2 hz3⟩
        clear hJ3 hz3
        gi_wp2
        go_roundw
        case rel => exact ⟨i + 1, by omega, by go_num, hJ4⟩
        case measure => simp [RowKit.intOf]; omega
      · have hx' := Lib.hid hx
        clear hx
        gi_wp2
        refine bodyPost_ret (results_none rfl _ _ _) rfl ?_
        exact ⟨⟨_, rfl⟩, .inr hx'.out⟩
    · obtain rfl : n = i := by omega
      have hend := Lib.hid hJi.out.1
      gi_wp2
      go_end0
      refine ⟨⟨_, rfl⟩, .inl ?_⟩
      have := hend.out
      rwa [List.take_of_length_le (by rw [nums_len]; exact Nat.le_refl _)] at this

theorem firstSectors_any (n : Int) (w : World) : Calls Tryz.prog 76 #[.int .i64 n] w (fun e w' => e = .returned (.func (.func 101) #[] #[.pointer (some ⟨w.heap.size, 0, none⟩)]) ∧ w' = w.alloc (.cells #[.int .i64 n] 3)) := by
  go_enter Tryz.func76, Tryz.ntmps76
  go_wp2
  go_returns
  exact ⟨rfl, rfl⟩
theorem noughts_any (n : Int) (w : World) : Calls Tryz.prog 48 #[.int .i64 n] w (fun e w' => e = .returned (.func (.func 75) #[] #[.pointer (some ⟨w.heap.size, 0, none⟩)]) ∧ w' = w.alloc (.cells #[.int .i64 n] 3)) := by
  go_enter Tryz.func48, Tryz.ntmps48
  go_wp2
  go_returns
  exact ⟨rfl, rfl⟩

end Go.Proofs.YtjhnagipagkhiaaGreat
