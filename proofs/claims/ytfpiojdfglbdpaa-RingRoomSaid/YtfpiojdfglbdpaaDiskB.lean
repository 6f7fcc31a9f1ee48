/- The methods of a disk, by their contracts: Read, Sync, Arm, Fail, Crash. -/
import Derived.Test.YtfpiojdfglbdpaaDisk
namespace Go.Proofs.Ytfpiojdfglbdpaa
open Go.RowKit

/-! ### Sync -/
def syRes (d : Dk) : Int × Dk :=
  if d.dead = true then (9, d) else if hit d.al d.an = true then (9, dDead d) else if hit d.fl d.fn = true then (8, dFail d) else (0, dSettle (dDone d) fun _ => true)

theorem why1 (d : Dk) (i : Int) : why d 1 i = if d.dead = true then 9 else 0 := by
  unfold why
  cases d.dead <;> simp

set_option maxHeartbeats 1000000 in
theorem sync_any (p : Pl) (d : Dk) (w : World) (k : At w p d) (ho : 0 ≤ d.ops) (ho1 : d.ops < 4611686018427387904) :
    Calls Try.prog 26 #[ptr p] w (fun e w' => e = .returned (.int .i64 (syRes d).1) ∧ At w' p (syRes d).2 ∧ Tch p.L w w') := by
  have hbl : Hid (Below w.heap.size w (w.alloc (.cells #[ptr p] 25))) := (Below.refl _ _).alloc (Nat.le_refl _) _
  have hrel : Hid (RowV 25 (w.alloc (.cells #[ptr p] 25)) w.heap.size [ptr p]) := RowV.made w [ptr p]
  have k1 := Lib.hid (k.below hbl.out)
  have hn0 := k.not_in (Nat.le_refl _)
  have b0 := hrel.out.cell 0
  simp only [List.getElem?_cons_zero] at b0
  have ht0 := Lib.hid (Tch.of_below hbl.out p.L)
  clear k
  have hw1 := why1 d 0
  cases hd : d.dead with
  | true =>
    have hres : syRes d = (9, d) := by simp [syRes, hd]
    rw [hres]
    simp only [hd, if_true] at hw1
    clear hres
    go_enter Try.func26, Try.ntmps26
    go_wp2_with (go_at_call 34; refine (refuse_any p d 1 0 (by decide) _ k1.out).mono ?_; rintro e w' ⟨rfl, rfl⟩; rw [hw1])
    go_ret
    exact ⟨rfl, k1.out, ht0.out⟩
  | false =>
    simp only [hd, if_neg (show ¬ false = true by decide)] at hw1
    by_cases h1 : hit d.al d.an = true
    · have hres : syRes d = (9, dDead d) := by simp [syRes, hd, h1]
      rw [hres]
      have hcl := Lib.hid (change_cut p d _ k1.out h1 ho ho1 (.func (.func 37) #[] #[.pointer (some ⟨w.heap.size, 0, none⟩)]) ⟨_, _, _, rfl⟩ 40 #[] (enters_of Try.func40 (by kernel_rfl) rfl)
        (fun W' => At W' p (dDead d) ∧ Tch p.L w W') (fun W kW tW => (sync2_any W).mono (by
          rintro e W' ⟨rfl, rfl⟩
          exact ⟨rfl, kW, ht0.out.trans tW⟩)))
      clear hres
      go_enter Try.func26, Try.ntmps26
      go_wp2_with (first
        | (go_at_call 34; refine (refuse_any p d 1 0 (by decide) _ k1.out).mono ?_; rintro e w' ⟨rfl, rfl⟩; rw [hw1])
        | (go_at_call 36; refine hcl.out.mono ?_; clear hcl; rintro e w5 ⟨rfl, hR⟩; have hR' := Lib.hid hR; clear hR))
      go_ret
      exact ⟨rfl, hR'.out⟩
    · have h1' : hit d.al d.an = false := by simpa using h1
      by_cases h2 : hit d.fl d.fn = true
      · have hres : syRes d = (8, dFail d) := by simp [syRes, hd, h1', h2]
        rw [hres]
        have hcl := Lib.hid (change_fails p d _ k1.out h1' h2 ho ho1 (.func (.func 37) #[] #[.pointer (some ⟨w.heap.size, 0, none⟩)]) (.func (.func 40) #[] #[]) ⟨_, _, _, rfl⟩)
        clear hres
        go_enter Try.func26, Try.ntmps26
        go_wp2_with (first
          | (go_at_call 34; refine (refuse_any p d 1 0 (by decide) _ k1.out).mono ?_; rintro e w' ⟨rfl, rfl⟩; rw [hw1])
          | (go_at_call 36; refine hcl.out.mono ?_; clear hcl; rintro e w5 ⟨rfl, hR⟩; have hR' := Lib.hid hR; clear hR))
        go_ret
        exact ⟨rfl, hR'.out.1, ht0.out.trans hR'.out.2⟩
      · have h2' : hit d.fl d.fn = false := by simpa using h2
        have hres : syRes d = (0, dSettle (dDone d) fun _ => true) := by simp [syRes, hd, h1', h2']
        rw [hres]
        have hcl := Lib.hid (change_done p d _ k1.out h1' h2' ho ho1 37 #[.pointer (some ⟨w.heap.size, 0, none⟩)] (.func (.func 40) #[] #[]) (enters_of Try.func37 (by kernel_rfl) rfl)
          (fun W' => At W' p (dSettle (dDone d) fun _ => true) ∧ Tch p.L w W') (fun W kW tW => (sync1_any p (dDone d) W kW w.heap.size (hrel.out.tch tW hn0)).mono (by
            rintro e W' ⟨rfl, h2, h3⟩
            exact ⟨rfl, h2, (ht0.out.trans tW).trans h3⟩)))
        clear hres
        go_enter Try.func26, Try.ntmps26
        go_wp2_with (first
          | (go_at_call 34; refine (refuse_any p d 1 0 (by decide) _ k1.out).mono ?_; rintro e w' ⟨rfl, rfl⟩; rw [hw1])
          | (go_at_call 36; refine hcl.out.mono ?_; clear hcl; rintro e w5 ⟨rfl, hR⟩; have hR' := Lib.hid hR; clear hR))
        go_ret
        exact ⟨rfl, hR'.out⟩

/-! ### Arm, Fail -/
def armRes (d : Dk) (n : Int) : Int × Dk := if d.dead = true then (9, d) else (0, { d with al := decide (0 ≤ n), an := n })
def failRes (d : Dk) (n : Int) : Int × Dk := if d.dead = true then (9, d) else (0, { d with fl := decide (0 ≤ n), fn := n })
theorem size74b (b : Bool) (n : Int) : (Try.prog.info? 58).map (·.size) = some [Value.bool b, Value.int .i64 n].length := size74

/-! ### Crash -/
/-- the value v is a list of these parts, that lie outside L -/
def Keep (w : World) (v : Value) (ks : List Bool) (L : List Nat) : Prop :=
  ∃ q c, v = .slice q ks.length c ∧ (q = none → ks = []) ∧ ∀ a, q = some a → (ks ≠ [] → a.block ∉ L) ∧ ∀ j x, ks[j]? = some x → w.cell? (a.add j) = some (.bool x)

theorem add_block (a : Addr) (j : Nat) : (a.add j).block = a.block := by unfold Addr.add; split <;> rfl
theorem cell_lt {w : World} {a : Addr} {v : Value} (h : w.cell? a = some v) : a.block < w.heap.size := by
  rcases Nat.lt_or_ge a.block w.heap.size with h1 | h1
  · exact h1
  · have : w.heap[a.block]? = none := by simp; omega
    simp [World.cell?, this] at h

theorem Keep.tch {w w' : World} {v : Value} {ks : List Bool} {L : List Nat} (h : Keep w v ks L) (ht : Tch L w w') : Keep w' v ks L := by
  obtain ⟨q, c, hv, h0, h1⟩ := h
  refine ⟨q, c, hv, h0, fun a ha => ⟨(h1 a ha).1, fun j x hx => ?_⟩⟩
  have hc := (h1 a ha).2 j x hx
  have hne : ks ≠ [] := fun e => by rw [e] at hx; simp at hx
  rw [World.cell?_of_block (w := w) (ht.block _ (cell_lt hc) (by rw [add_block]; exact (h1 a ha).1 hne))]
  exact hc

def crRes (d : Dk) (ks : List Bool) : Dk := { held := (sett (keepOf ks) d.cache d.held d.pend).2, cache := fun _ => none, ops := d.ops, dead := false, al := false, an := 0, fl := false, fn := 0 }

end Go.Proofs.Ytfpiojdfglbdpaa
