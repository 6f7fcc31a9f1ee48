/- Text and Parse. -/
import Derived.Test.YtfplmflbkhanoaaDoorMSup
namespace Go.Proofs.YtfplmflbkhanoaaDoor
open Go.RowKit

def texL : List ByteArray := [⟨#[45]⟩, ⟨#[73, 83]⟩, ⟨#[73, 88]⟩, ⟨#[83]⟩, ⟨#[83, 73, 88]⟩, ⟨#[88]⟩, ⟨#[69]⟩]
def tx (m : Nat) : ByteArray := texL.getD m ⟨#[]⟩
def LaidT (w : World) : Prop := ∀ i, i < 7 → w.cell? ⟨0, i, none⟩ = some (.string (tx i))
theorem LaidT.below {w w' : World} (h : LaidT w) (hb : Below w.heap.size w w') : LaidT w' := fun i hi => cell_keeps hb (Nat.le_refl _) (h i hi)

def isT (m : Nat) (s : ByteArray) : Bool := (tx m).toList == s.toList

theorem text_ok (m : Nat) (hm : m < 7) (w : World) (hT : LaidT w) : Calls Tryd.prog 15 #[.int .i64 m] w (fun e w' => e = .returned (.string (tx m)) ∧ Below w.heap.size w w') := by
  have ham := Lib.hid (fun g u h => areModes_any g 1 1 [(m : Int)] u rfl h (by decide))
  have e2 : allM [(m : Int)] = true := by unfold allM; simp [isM_of hm]
  rw [e2] at ham
  obtain ⟨W, hW⟩ : ∃ W, w.alloc (.cells #[.int .i64 m] 3) = W := ⟨_, rfl⟩
  have hi : Hid (Ints W w.heap.size [(m : Int)]) := by rw [← hW]; exact Ints.new w [(m : Int)] _ _ _ rfl rfl
  have hb : Hid (Below w.heap.size w W) := by rw [← hW]; exact below_alloc _ _
  have c0 := (hT.below hb.out) m hm
  have hm7 : (m : Int) < 7 := by omega
  clear e2 hT
  go_enter Tryd.func15, Tryd.ntmps15
  go_wp2_with fail
  clear hW
  refine (ham.out _ _ hi.out).mono ?_
  rintro e w1 ⟨rfl, rfl⟩
  go_wp2
  go_ret
  exact ⟨rfl, hb.out⟩

theorem text_no (m : Int) (hm : isM m = false) (w : World) : Calls Tryd.prog 15 #[.int .i64 m] w (fun e w' => e = .returned (.string ⟨#[]⟩) ∧ Below w.heap.size w w') := by
  have ham := Lib.hid (fun g u h => areModes_any g 1 1 [m] u rfl h (by decide))
  have e2 : allM [m] = false := by unfold allM; simp [hm]
  rw [e2] at ham
  obtain ⟨W, hW⟩ : ∃ W, w.alloc (.cells #[.int .i64 m] 3) = W := ⟨_, rfl⟩
  have hi : Hid (Ints W w.heap.size [m]) := by rw [← hW]; exact Ints.new w [m] _ _ _ rfl rfl
  have hb : Hid (Below w.heap.size w W) := by rw [← hW]; exact below_alloc _ _
  clear e2 hm
  go_enter Tryd.func15, Tryd.ntmps15
  go_wp2_with fail
  clear hW
  refine (ham.out _ _ hi.out).mono ?_
  rintro e w1 ⟨rfl, rfl⟩
  go_wp2
  go_ret
  exact ⟨rfl, hb.out⟩

def txC : List Value := [.string (tx 0), .string (tx 1), .string (tx 2), .string (tx 3), .string (tx 4), .string (tx 5), .string (tx 6)]
theorem load_tx {w : World} (hT : LaidT w) : ∀ j v, txC[j]? = some v → w.cell? ((⟨0, 0, none⟩ : Addr).add j) = some v := by
  intro j v hj
  have hadd : (⟨0, 0, none⟩ : Addr).add j = ⟨0, j, none⟩ := by unfold Addr.add; split <;> simp_all
  rw [hadd]
  match j, hj with
  | 0, hj => rw [hT 0 (by decide)]; exact hj
  | 1, hj => rw [hT 1 (by decide)]; exact hj
  | 2, hj => rw [hT 2 (by decide)]; exact hj
  | 3, hj => rw [hT 3 (by decide)]; exact hj
  | 4, hj => rw [hT 4 (by decide)]; exact hj
  | 5, hj => rw [hT 5 (by decide)]; exact hj
  | 6, hj => rw [hT 6 (by decide)]; exact hj
  | j + 7, hj => simp [txC] at hj
theorem size7 : (Tryd.prog.info? 39).map (·.size) = some txC.length := by kernel_rfl
theorem seven {k : Nat} (h : k < 7) : k = 0 ∨ k = 1 ∨ k = 2 ∨ k = 3 ∨ k = 4 ∨ k = 5 ∨ k = 6 := by omega

def txA : Array Value := #[.string (tx 0), .string (tx 1), .string (tx 2), .string (tx 3), .string (tx 4), .string (tx 5), .string (tx 6)]
theorem run_index_tx (k : Nat) (hk : k < 7) (u : World) : (Instr.index 39 (.agg txA) (.int .i64 k)).run Tryd.prog u = .ok (.string (tx k)) u := by
  have hu := Tryd.underlying39
  have hz : (Tryd.prog.types[9]?).map (·.size) = some 1 := by kernel_rfl
  rcases seven hk with rfl | rfl | rfl | rfl | rfl | rfl | rfl <;> rfl
theorem wpList_index_tx {ops : Array Oper} {rest : List Oper} {o : Oper} {a : Act} {w : World} {Q : Exit → Act → World → Prop} (hgd : o.guard = none) (x y : Operand) (ho : o.op = .index 39 x y) {k : Nat} (hx : a.eval x = .agg txA) (hy : a.eval y = .int .i64 k) (hk : k < 7)
    (h : wpList Tryd.prog ops Q rest (a.put o.dst (.string (tx k))) w) : wpList Tryd.prog ops Q (o :: rest) a w := by
  refine wpList_plain hgd fun K hK => ?_
  unfold Oper.wp execOp
  simp only [ho, hx, hy, Sem.run_bind, Sem.run_pure, Result.andThen_ok, run_index_tx k hk]
  exact hK _ _ h

set_option maxRecDepth 100000 in
theorem parse_at (j : Nat) (hj : j < 7) (s : ByteArray) (w : World) (hT : LaidT w) (h1 : isT j s = true) (h2 : ∀ i, i < j → isT i s = false) :
    Calls Tryd.prog 17 #[.string s] w (fun e w' => e = .returned (.tuple #[.int .i64 j, .int .i64 0]) ∧ w = w') := by
  have hl := Lib.hid (load_tx hT)
  have g1 := Lib.hid h1
  have g2 := Lib.hid h2
  clear hT h1 h2
  go_enter Tryd.func17, Tryd.ntmps17
  go_wp2_with (with_reducible refine wpList_load_at rfl 39 (.global 0) rfl Tryd.underlying39 rfl size7 rfl hl.out ?_)
  rw [show txC.toArray = txA from rfl]
  go_loop [7] (fun v7 => ∃ k : Nat, k ≤ j ∧ v7 = .int .i64 k) (fun v7 => 7 - (intOf v7).toNat)
  case atStart => exact ⟨0, Nat.zero_le _, rfl⟩
  case round =>
    obtain ⟨k, hk, rfl⟩ := hrel
    by_cases hlt : k < j
    · have hq := g2.out k hlt
      have hk7 : k < 7 := by omega
      unfold isT at hq
      rcases seven hk7 with rfl | rfl | rfl | rfl | rfl | rfl | rfl
      all_goals
        go_wp2_with (with_reducible refine wpList_index_tx rfl (.tmp 6) (.tmp 7) rfl rfl rfl (by decide) ?_)
        go_round
        case rel => exact ⟨_, hlt, rfl⟩
        case measure => simp [intOf]
    · obtain rfl : j = k := by omega
      have hq := g1.out
      unfold isT at hq
      rcases seven hj with rfl | rfl | rfl | rfl | rfl | rfl | rfl
      all_goals
        go_wp2_with (with_reducible refine wpList_index_tx rfl (.tmp 6) (.tmp 7) rfl rfl rfl (by decide) ?_)
        go_ret2
        exact ⟨rfl, rfl⟩

set_option maxRecDepth 100000 in
theorem parse_none (s : ByteArray) (w : World) (hT : LaidT w) (h2 : ∀ i, i < 7 → isT i s = false) :
    Calls Tryd.prog 17 #[.string s] w (fun e w' => e = .returned (.tuple #[.int .i64 0, .int .i64 2]) ∧ w = w') := by
  have hl := Lib.hid (load_tx hT)
  have g2 := Lib.hid h2
  clear hT h2
  go_enter Tryd.func17, Tryd.ntmps17
  go_wp2_with (with_reducible refine wpList_load_at rfl 39 (.global 0) rfl Tryd.underlying39 rfl size7 rfl hl.out ?_)
  rw [show txC.toArray = txA from rfl]
  go_loop [7] (fun v7 => ∃ k : Nat, k ≤ 7 ∧ v7 = .int .i64 k) (fun v7 => 7 - (intOf v7).toNat)
  case atStart => exact ⟨0, Nat.zero_le _, rfl⟩
  case round =>
    obtain ⟨k, hk, rfl⟩ := hrel
    by_cases hlt : k < 7
    · have hq := g2.out k hlt
      unfold isT at hq
      rcases seven hlt with rfl | rfl | rfl | rfl | rfl | rfl | rfl
      all_goals
        go_wp2_with (with_reducible refine wpList_index_tx rfl (.tmp 6) (.tmp 7) rfl rfl rfl (by decide) ?_)
        go_round
        case rel => exact ⟨_, hlt, rfl⟩
        case measure => simp [intOf]
    · obtain rfl : k = 7 := by omega
      go_wp2
      go_ret2
      exact ⟨rfl, rfl⟩

end Go.Proofs.YtfplmflbkhanoaaDoor
