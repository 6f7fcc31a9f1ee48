/- The contract of Check. -/
import Derived.Test.YthjmmnbfjahamaaDoorSign
import Derived.BigQuiet
import Derived.Deep.QuietTactic
namespace Go.Proofs.YthjmmnbfjahamaaDoor
open Go.RowKit

def signed (l : List UInt8) : Bool := decide (4 ≤ l.length) && l.drop (l.length - 4) == le4 (crc (l.take (l.length - 4)))
def ck (l : List UInt8) : Int := if signed l then 0 else 130

theorem holds_take {w w' : World} {p : Option Addr} {n c k : Nat} {l : List UInt8} (h : Lib.HoldsBytes w (.slice p n c) l) (hb : Below w.heap.size w w') (hk : k ≤ n) : Lib.HoldsBytes w' (.slice p k c) (l.take k) := by
  obtain ⟨q, cap, he, h1, h2⟩ := h
  cases he
  refine ⟨p, c, ?_, fun hp => by rw [h1 hp]; simp, fun a ha i x hx => ?_⟩
  · rw [List.length_take, Nat.min_eq_left hk]
  · rw [List.getElem?_take] at hx
    split at hx
    · exact Lib.Below.cellOf hb (h2 a ha i x hx) (Nat.le_refl _)
    · cases hx

theorem holds_drop {w : World} {a : Addr} {m c k : Nat} {l : List UInt8} (h : Lib.HoldsBytes w (.slice (some a) (k + m) c) l) : Lib.HoldsBytes w (.slice (some (a.add k)) m (c - k)) (l.drop k) := by
  have hlen := holds_len h
  obtain ⟨q, cap, he, h1, h2⟩ := h
  simp only [Value.slice.injEq] at he
  obtain ⟨rfl, _, rfl⟩ := he
  refine ⟨some (a.add k), c - k, by rw [List.length_drop]; congr 1; omega, (fun hp => by cases hp), fun b hb i x hx => ?_⟩
  cases hb
  rw [List.getElem?_drop] at hx
  rw [Addr.add_add]
  exact h2 a rfl (k + i) x hx

theorem check_short (p : Option Addr) (n c : Nat) (l : List UInt8) (w : World) (hv : Lib.HoldsBytes w (.slice p n c) l) (hn : n < 4) :
    Calls Tryd.prog 15 #[.slice p n c] w (fun e w' => e = .returned (.int .i64 (ck l)) ∧ Below w.heap.size w w') := by
  have e : Hid ((130 : Int) = ck l) := by
    have := holds_len hv
    show _ = _
    unfold ck signed
    rw [decide_eq_false (by omega)]; rfl
  have hb0 := fun k => Lib.hid (below_drewN (Below.refl w.heap.size w) k)
  clear hv
  have hd : decide ((n : Int) - 4 < 0) = true := decide_eq_true (by omega)
  go_enter Tryd.func15, Tryd.ntmps15
  go_wp2
  go_quiet (fail)
  go_wp2
  go_ret
  exact ⟨ret_int e.out, (hb0 _).out⟩

set_option maxHeartbeats 1000000 in
theorem check_long (a : Addr) (k c : Nat) (l : List UInt8) (w : World) (hL : Laid w) (hv : Lib.HoldsBytes w (.slice (some a) (k + 4) c) l) (hn : k ≤ 1000000) (hnc : k + 4 ≤ c) :
    Calls Tryd.prog 15 #[.slice (some a) (k + 4) c] w (fun e w' => e = .returned (.int .i64 (ck l)) ∧ Below w.heap.size w w') := by
  have hb0 := Lib.hid (below_drew (B := w.heap.size) w)
  have hvt : Hid (Lib.HoldsBytes w (.slice (some a) k c) (l.take k)) := holds_take hv (Below.refl _ _) (by omega)
  have hvd : Hid (Lib.HoldsBytes w (.slice (some (a.add k)) 4 (c - k)) (l.drop k)) := holds_drop hv
  have hcl := Lib.hid (sum_any (some a) k c (l.take k) w.drew (hL.keep hb0.out hL.size) (holds_below hvt.out hb0.out (Nat.le_refl _)) (by omega))
  obtain ⟨B, hB⟩ : ∃ B : Bool, B = (l.drop k == le4 (crc (l.take k))) := ⟨_, rfl⟩
  have hck : Hid (ck l = if B then 0 else 130) := by
    have := holds_len hv
    show _ = _
    unfold ck signed
    rw [decide_eq_true (by omega), show l.length - 4 = k by omega, ← hB]
    rfl
  have hB1 := Lib.hid hB
  clear hL hv hB
  go_enter Tryd.func15, Tryd.ntmps15
  have hd : decide ((k : Int) < 0) = false := decide_eq_false (by omega)
  have hck0 : c ≠ k := by omega
  go_wp2
  refine wp_region_held (S := fun _ => True) (by kernel_rfl) ?_
  change wpAnyH _ _ _ _ _ _ _ _ (World.drew w)
  refine held_take (i := 0) (dst := some 7) rfl rfl (by kernel_rfl) (by kernel_rfl) (by kernel_rfl) (fun _ _ _ h => h) (y_move (.tmp 3) rfl rfl rfl) trivial ?_
  go_frame
  refine held_take (i := 1) (dst := some 8) (v := .bool false) rfl rfl (by kernel_rfl) (by kernel_rfl) (by kernel_rfl) (fun _ _ _ h => h) (.inl ⟨rfl, fun W _ => by go_simp⟩) trivial ?_
  go_frame
  refine held_take (i := 2) (dst := some 9) rfl rfl (by kernel_rfl) (by kernel_rfl) (by kernel_rfl) (fun _ _ _ h => h) (y_move (.tmp 8) rfl rfl rfl) trivial ?_
  go_frame
  refine held_take (i := 3) (dst := some 10) rfl rfl (by kernel_rfl) (by kernel_rfl) (by kernel_rfl) (fun _ _ _ h => h) (y_move (.tmp 0) rfl rfl rfl) trivial ?_
  go_frame
  refine held_take (i := 4) (dst := some 11) rfl rfl (by kernel_rfl) (by kernel_rfl) (by kernel_rfl) (fun _ _ _ h => h) (y_move (.tmp 3) rfl rfl rfl) trivial ?_
  go_frame
  refine held_take (i := 5) (dst := some 12) (v := .slice (some (a.add k)) 4 (c - k)) rfl rfl (by kernel_rfl) (by kernel_rfl) (by kernel_rfl) (fun _ _ _ h => h) (.inl ⟨rfl, fun W _ => by go_simp; intro h; exfalso; omega⟩) trivial ?_
  go_frame
  refine held_take (i := 6) (dst := some 13) rfl rfl (by kernel_rfl) (by kernel_rfl) (by kernel_rfl) (fun _ _ _ h => h) (y_move (.tmp 0) rfl rfl rfl) trivial ?_
  go_frame
  refine held_take (i := 7) (dst := some 14) rfl rfl (by kernel_rfl) (by kernel_rfl) (by kernel_rfl) (fun _ _ _ h => h) (y_move (.tmp 3) rfl rfl rfl) trivial ?_
  go_frame
  refine held_take (i := 8) (dst := some 15) (v := .slice (some a) k c) rfl rfl (by kernel_rfl) (by kernel_rfl) (by kernel_rfl) (fun _ _ _ h => h) (.inl ⟨rfl, fun W _ => by go_simp; intro h; exfalso; omega⟩) trivial ?_
  go_frame
  refine held_call (i := 9) (dst := some 16) rfl rfl (by kernel_rfl) rfl (by go_simp) hcl.out ?_
  rintro e w1 ⟨rfl, hb1⟩
  refine ⟨_, rfl, trivial, ?_⟩
  go_frame
  refine held_call (i := 10) (dst := some 17) rfl rfl (by kernel_rfl) rfl (by go_simp) (stand_any (crc (l.take k)) w1) ?_
  rintro e w2 ⟨rfl, hr2, hb2⟩
  refine ⟨_, rfl, trivial, ?_⟩
  go_frame
  have hb3 := Lib.hid ((hb0.out.trans (show Below w.heap.size w.drew w1 from hb1)).trans (hb2.mono hb1.size))
  have heq := equal_any (some (a.add k)) (some ⟨w1.heap.size, 0, none⟩) 4 (c - k) 4 4 _ _ w2 (holds_below hvd.out hb3.out (Nat.le_refl _)) (hr2.holds 4)
  rw [← hB1.out] at heq
  refine held_call (i := 11) (dst := some 18) rfl rfl (by kernel_rfl) rfl (by go_simp) heq ?_
  rintro e w4 ⟨rfl, rfl⟩
  refine ⟨_, rfl, trivial, ?_⟩
  go_frame
  clear heq
  refine held_take (i := 12) (dst := some 19) (v := .bool (!B)) rfl rfl (by kernel_rfl) (by kernel_rfl) (by kernel_rfl) (fun _ _ _ h => h) (.inl ⟨rfl, fun W _ => by go_simp⟩) trivial ?_
  go_frame
  refine held_take (i := 13) (dst := some 20) (v := .bool (!B)) rfl rfl (by kernel_rfl) (by kernel_rfl) (by kernel_rfl) (fun _ _ _ h => h) (.inl ⟨rfl, fun W _ => by go_simp⟩) trivial ?_
  go_frame
  refine wpAnyH_done (by kernel_rfl) ?_ _
  clear hcl hB1
  cases B
  · go_wp2
    go_ret
    exact ⟨ret_int hck.out.symm, hb3.out⟩
  · go_wp2
    go_ret
    exact ⟨ret_int hck.out.symm, hb3.out⟩

theorem check_any (p : Option Addr) (n c : Nat) (l : List UInt8) (w : World) (hL : Laid w) (hv : Lib.HoldsBytes w (.slice p n c) l) (hn : n ≤ 1000000) (hnc : n ≤ c) :
    Calls Tryd.prog 15 #[.slice p n c] w (fun e w' => e = .returned (.int .i64 (ck l)) ∧ Below w.heap.size w w') := by
  by_cases h : n < 4
  · exact check_short p n c l w hv h
  · obtain ⟨k, rfl⟩ : ∃ k, n = k + 4 := ⟨n - 4, by omega⟩
    cases p with
    | none =>
      obtain ⟨_, _, he, h1, _⟩ := hv
      simp only [Value.slice.injEq] at he
      obtain ⟨rfl, hl, _⟩ := he
      rw [h1 rfl] at hl
      cases hl
    | some a => exact check_long a k c l w hL hv (by omega) hnc

end Go.Proofs.YthjmmnbfjahamaaDoor
