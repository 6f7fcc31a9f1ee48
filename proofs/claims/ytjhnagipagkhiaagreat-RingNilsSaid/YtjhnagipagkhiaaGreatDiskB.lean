/- The methods of a disk, by their contracts: Read, Sync, Arm, Fail, Crash. -/
import Derived.Test.YtjhnagipagkhiaaGreatDisk
namespace Go.Proofs.YtjhnagipagkhiaaGreat
open Go.RowKit

/-! ### Sync -/
def syRes (d : Dk) : Int × Dk :=
  if d.dead = true then (9, d) else if hit d.al d.an = true then (9, dDead d) else if hit d.fl d.fn = true then (8, dFail d) else (0, dSettle (dDone d) fun _ => true)

theorem why1 (d : Dk) (i : Int) : why d 1 i = if d.dead = true then 9 else 0 := by
  unfold why
  cases d.dead <;> simp

set_option maxHeartbeats 1000000 in
theorem sync_any (p : Pl) (d : Dk) (w : World) (k : At w p d) (ho : 0 ≤ d.ops) (ho1 : d.ops < 4611686018427387904) :
    Calls Tryz.prog 74 #[ptr p] w (fun e w' => e = .returned (.int .i64 (syRes d).1) ∧ At w' p (syRes d).2 ∧ Tch p.L w w') := by
  have hbl : Hid (Below w.heap.size w (w.alloc (.cells #[ptr p] 24))) := (Below.refl _ _).alloc (Nat.le_refl _) _
  have hrel : Hid (RowV 24 (w.alloc (.cells #[ptr p] 24)) w.heap.size [ptr p]) := RowV.made w [ptr p]
  have k1 := Lib.hid (k.below hbl.out)
  have hn0 := k.not_in (Nat.le_refl _)
  have b0 := hrel.out.cell 0
  simp only [List.getElem?_cons_zero] at b0
  have ht0 := Lib.hid (Tch.of_below hbl.out p.L)
  clear k
  have hw1 := why1 d 0
  cases hd : d.dead with
  | true =>
    have hres : syRes d = (9, d) := by simp [syRes, hd]
    rw [hres]
    simp only [hd, if_true] at hw1
    clear hres
    go_enter Tryz.func74, Tryz.ntmps74
    go_wp2_with (go_at_call 40; refine (refuse_any p d 1 0 (by decide) _ k1.out).mono ?_; rintro e w' ⟨rfl, rfl⟩; rw [hw1])
    go_ret
    exact ⟨rfl, k1.out, ht0.out⟩
  | false =>
    simp only [hd, if_neg (show ¬ false = true by decide)] at hw1
    by_cases h1 : hit d.al d.an = true
    · have hres : syRes d = (9, dDead d) := by simp [syRes, hd, h1]
      rw [hres]
      have hcl := Lib.hid (change_cut p d _ k1.out h1 ho ho1 (.func (.func 98) #[] #[.pointer (some ⟨w.heap.size, 0, none⟩)]) ⟨_, _, _, rfl⟩ 100 #[] (enters_of Tryz.func100 (by kernel_rfl) rfl)
        (fun W' => At W' p (dDead d) ∧ Tch p.L w W') (fun W kW tW => (sync2_any W).mono (by
          rintro e W' ⟨rfl, rfl⟩
          exact ⟨rfl, kW, ht0.out.trans tW⟩)))
      clear hres
      go_enter Tryz.func74, Tryz.ntmps74
      go_wp2_with (first
        | (go_at_call 40; refine (refuse_any p d 1 0 (by decide) _ k1.out).mono ?_; rintro e w' ⟨rfl, rfl⟩; rw [hw1])
        | (go_at_call 97; refine hcl.out.mono ?_; clear hcl; rintro e w5 ⟨rfl, hR⟩; have hR' := Lib.hid hR; clear hR))
      go_ret
      exact ⟨rfl, hR'.out⟩
    · have h1' : hit d.al d.an = false := by simpa using h1
      by_cases h2 : hit d.fl d.fn = true
      · have hres : syRes d = (8, dFail d) := by simp [syRes, hd, h1', h2]
        rw [hres]
        have hcl := Lib.hid (change_fails p d _ k1.out h1' h2 ho ho1 (.func (.func 98) #[] #[.pointer (some ⟨w.heap.size, 0, none⟩)]) (.func (.func 100) #[] #[]) ⟨_, _, _, rfl⟩)
        clear hres
        go_enter Tryz.func74, Tryz.ntmps74
        go_wp2_with (first
          | (go_at_call 40; refine (refuse_any p d 1 0 (by decide) _ k1.out).mono ?_; rintro e w' ⟨rfl, rfl⟩; rw [hw1])
          | (go_at_call 97; refine hcl.out.mono ?_; clear hcl; rintro e w5 ⟨rfl, hR⟩; have hR' := Lib.hid hR; clear hR))
        go_ret
        exact ⟨rfl, hR'.out.1, ht0.out.trans hR'.out.2⟩
      · have h2' : hit d.fl d.fn = false := by simpa using h2
        have hres : syRes d = (0, dSettle (dDone d) fun _ => true) := by simp [syRes, hd, h1', h2']
        rw [hres]
        have hcl := Lib.hid (change_done p d _ k1.out h1' h2' ho ho1 98 #[.pointer (some ⟨w.heap.size, 0, none⟩)] (.func (.func 100) #[] #[]) (enters_of Tryz.func98 (by kernel_rfl) rfl)
          (fun W' => At W' p (dSettle (dDone d) fun _ => true) ∧ Tch p.L w W') (fun W kW tW => (sync1_any p (dDone d) W kW w.heap.size (hrel.out.tch tW hn0)).mono (by
            rintro e W' ⟨rfl, h2, h3⟩
            exact ⟨rfl, h2, (ht0.out.trans tW).trans h3⟩)))
        clear hres
        go_enter Tryz.func74, Tryz.ntmps74
        go_wp2_with (first
          | (go_at_call 40; refine (refuse_any p d 1 0 (by decide) _ k1.out).mono ?_; rintro e w' ⟨rfl, rfl⟩; rw [hw1])
          | (go_at_call 97; refine hcl.out.mono ?_; clear hcl; rintro e w5 ⟨rfl, hR⟩; have hR' := Lib.hid hR; clear hR))
        go_ret
        exact ⟨rfl, hR'.out⟩

/-! ### Arm, Fail -/
def armRes (d : Dk) (n : Int) : Int × Dk := if d.dead = true then (9, d) else (0, { d with al := decide (0 ≤ n), an := n })
def failRes (d : Dk) (n : Int) : Int × Dk := if d.dead = true then (9, d) else (0, { d with fl := decide (0 ≤ n), fn := n })
theorem size74b (b : Bool) (n : Int) : (Tryz.prog.info? 78).map (·.size) = some [Value.bool b, Value.int .i64 n].length := size74

set_option maxHeartbeats 1000000 in
theorem arm_any (p : Pl) (d : Dk) (w : World) (k : At w p d) (n : Int) (hn : n < 9223372036854775808) :
    Calls Tryz.prog 26 #[ptr p, .int .i64 n] w (fun e w' => e = .returned (.int .i64 (armRes d n).1) ∧ At w' p (armRes d n).2 ∧ Tch p.L w w') := by
  have hk := Lib.hid k
  clear k
  have hw1 := why1 d 0
  cases hd : d.dead with
  | true =>
    have hres : armRes d n = (9, d) := by simp [armRes, hd]
    rw [hres]
    simp only [hd, if_true] at hw1
    clear hres
    go_enter Tryz.func26, Tryz.ntmps26
    go_wp2_with (go_at_call 40; refine (refuse_any p d 1 0 (by decide) _ hk.out).mono ?_; rintro e w' ⟨rfl, rfl⟩; rw [hw1])
    go_ret
    exact ⟨rfl, hk.out, Tch.refl _ _⟩
  | false =>
    simp only [hd, if_neg (show ¬ false = true by decide)] at hw1
    have hres : armRes d n = (0, { d with al := decide (0 ≤ n), an := n }) := by simp [armRes, hd]
    rw [hres]
    clear hres
    go_enter Tryz.func26, Tryz.ntmps26
    go_wp2_with (first
      | (go_at_call 40; refine (refuse_any p d 1 0 (by decide) _ hk.out).mono ?_; rintro e w' ⟨rfl, rfl⟩; rw [hw1])
      | (go_at_call 62; refine (light_any n _).mono ?_; rintro e w2 ⟨rfl, hb⟩; have hb' := Lib.hid hb; have k2 := Lib.hid (hk.out.below hb); have hr2 := Lib.hid k2.out.row; clear hb)
      | ((with_reducible refine wpList_store_at rfl 78 (.tmp 15) (.tmp 13) rfl (o := 4) rfl rfl hr2.out (size74b _ _) (fuse_fit4 _ _ _ _) (fuse_one _ _) ?_)
         intro w3 h3 hg3))
    go_ret
    refine ⟨rfl, k2.out.struct hg3 h3 rfl rfl ⟨k2.out.good.pos, k2.out.good.n, k2.out.good.held, k2.out.good.cache, fun h => ?_, k2.out.good.fails⟩, (Tch.of_below hb'.out _).trans (Tch.of_grown hg3 (g_in p))⟩
    have : 0 ≤ n := by simpa using h
    exact ⟨this, hn⟩

set_option maxHeartbeats 1000000 in
theorem fail_any (p : Pl) (d : Dk) (w : World) (k : At w p d) (n : Int) (hn : n < 9223372036854775808) :
    Calls Tryz.prog 27 #[ptr p, .int .i64 n] w (fun e w' => e = .returned (.int .i64 (failRes d n).1) ∧ At w' p (failRes d n).2 ∧ Tch p.L w w') := by
  have hk := Lib.hid k
  clear k
  have hw1 := why1 d 0
  cases hd : d.dead with
  | true =>
    have hres : failRes d n = (9, d) := by simp [failRes, hd]
    rw [hres]
    simp only [hd, if_true] at hw1
    clear hres
    go_enter Tryz.func27, Tryz.ntmps27
    go_wp2_with (go_at_call 40; refine (refuse_any p d 1 0 (by decide) _ hk.out).mono ?_; rintro e w' ⟨rfl, rfl⟩; rw [hw1])
    go_ret
    exact ⟨rfl, hk.out, Tch.refl _ _⟩
  | false =>
    simp only [hd, if_neg (show ¬ false = true by decide)] at hw1
    have hres : failRes d n = (0, { d with fl := decide (0 ≤ n), fn := n }) := by simp [failRes, hd]
    rw [hres]
    clear hres
    go_enter Tryz.func27, Tryz.ntmps27
    go_wp2_with (first
      | (go_at_call 40; refine (refuse_any p d 1 0 (by decide) _ hk.out).mono ?_; rintro e w' ⟨rfl, rfl⟩; rw [hw1])
      | (go_at_call 62; refine (light_any n _).mono ?_; rintro e w2 ⟨rfl, hb⟩; have hb' := Lib.hid hb; have k2 := Lib.hid (hk.out.below hb); have hr2 := Lib.hid k2.out.row; clear hb)
      | ((with_reducible refine wpList_store_at rfl 78 (.tmp 15) (.tmp 13) rfl (o := 6) rfl rfl hr2.out (size74b _ _) (fuse_fit6 _ _ _ _) (fuse_one _ _) ?_)
         intro w3 h3 hg3))
    go_ret
    refine ⟨rfl, k2.out.struct hg3 h3 rfl rfl ⟨k2.out.good.pos, k2.out.good.n, k2.out.good.held, k2.out.good.cache, k2.out.good.armed, fun h => ?_⟩, (Tch.of_below hb'.out _).trans (Tch.of_grown hg3 (g_in p))⟩
    have : 0 ≤ n := by simpa using h
    exact ⟨this, hn⟩

/-! ### Crash -/
/-- the value v is a list of these parts, that lie outside L -/
def Keep (w : World) (v : Value) (ks : List Bool) (L : List Nat) : Prop :=
  ∃ q c, v = .slice q ks.length c ∧ (q = none → ks = []) ∧ ∀ a, q = some a → (ks ≠ [] → a.block ∉ L) ∧ ∀ j x, ks[j]? = some x → w.cell? (a.add j) = some (.bool x)

theorem add_block (a : Addr) (j : Nat) : (a.add j).block = a.block := by unfold Addr.add; split <;> rfl
theorem cell_lt {w : World} {a : Addr} {v : Value} (h : w.cell? a = some v) : a.block < w.heap.size := by
  rcases Nat.lt_or_ge a.block w.heap.size with h1 | h1
  · exact h1
  · have : w.heap[a.block]? = none := by simp; omega
    simp [World.cell?, this] at h

theorem Keep.tch {w w' : World} {v : Value} {ks : List Bool} {L : List Nat} (h : Keep w v ks L) (ht : Tch L w w') : Keep w' v ks L := by
  obtain ⟨q, c, hv, h0, h1⟩ := h
  refine ⟨q, c, hv, h0, fun a ha => ⟨(h1 a ha).1, fun j x hx => ?_⟩⟩
  have hc := (h1 a ha).2 j x hx
  have hne : ks ≠ [] := fun e => by rw [e] at hx; simp at hx
  rw [World.cell?_of_block (w := w) (ht.block _ (cell_lt hc) (by rw [add_block]; exact (h1 a ha).1 hne))]
  exact hc

def crRes (d : Dk) (ks : List Bool) : Dk := { held := (sett (keepOf ks) d.cache d.held d.pend).2, cache := fun _ => none, ops := d.ops, dead := false, al := false, an := 0, fl := false, fn := 0 }

set_option maxHeartbeats 1000000 in
theorem crash_any (p : Pl) (d : Dk) (w : World) (k : At w p d) (v : Value) (ks : List Bool) (hv : Keep w v ks p.L) :
    Calls Tryz.prog 11 #[ptr p, v] w (fun e w' => e = .returned (.int .i64 0) ∧ At w' p (crRes d ks) ∧ Tch p.L w w') := by
  have hbl : Hid (Below w.heap.size w (w.alloc (.cells #[v] 40))) := (Below.refl _ _).alloc (Nat.le_refl _) _
  have hrel : Hid (RowV 40 (w.alloc (.cells #[v] 40)) w.heap.size [v]) := RowV.made w [v]
  have k1 := Lib.hid (k.below hbl.out)
  have hn0 := k.not_in (Nat.le_refl _)
  have ht0 := Lib.hid (Tch.of_below hbl.out p.L)
  have hv1 := hv.tch ht0.out
  have hw0 : why d 0 0 = 0 := by simp [why]
  have hcl := Lib.hid (settle_any p d _ k1.out 42 #[.pointer (some ⟨w.heap.size, 0, none⟩)] (keepOf ks) (enters_of Tryz.func42 (by kernel_rfl) rfl) (fun nth W _ tW => by
    obtain ⟨q, c, h1, h2, h3⟩ := hv1.tch tW
    exact crash1_any v ks nth W w.heap.size (hrel.out.tch tW hn0) ⟨q, c, h1, h2, fun a ha j x hx => (h3 a ha).2 j x hx⟩))
  obtain ⟨q0, c0, rfl, _⟩ := hv
  clear k hv1
  go_enter Tryz.func11, Tryz.ntmps11
  go_wp2_with (first
    | (go_at_call 40; refine (refuse_any p d 0 0 (by decide) _ k1.out).mono ?_; rintro e w' ⟨rfl, rfl⟩; rw [hw0])
    | (go_at_call 41; refine hcl.out.mono ?_; clear hcl; rintro e w5 ⟨rfl, hA, hT⟩
       have k5 := Lib.hid hA
       have t5 := Lib.hid (ht0.out.trans hT)
       have c3 := hA.row.cell 3
       have f3 := hA.row.free 3
       simp only [List.getElem?_cons_succ, List.getElem?_cons_zero] at c3
       have k6 := Lib.hid (hA.field (d' := { d with held := (sett (keepOf ks) d.cache d.held d.pend).2, cache := fun _ => none, dead := false }) 3 (.bool false) rfl rfl rfl ⟨hA.good.pos, hA.good.n, hA.good.held, hA.good.cache, hA.good.armed, hA.good.fails⟩)
       have t6 := Lib.hid (t5.out.trans (tch_g w5 p 3 (.bool false)))
       have hr6 := Lib.hid k6.out.row
       clear hA hT)
    | ((with_reducible refine wpList_store_at rfl 78 (.tmp 22) (.tmp 19) rfl (o := 4) rfl rfl hr6.out (size74b _ _) (fuse_fit4 _ _ _ _) (fuse_one _ _) ?_)
       intro w7 h7 hg7
       have k7 := Lib.hid (k6.out.struct (d' := { d with held := (sett (keepOf ks) d.cache d.held d.pend).2, cache := fun _ => none, dead := false, al := false, an := 0 }) hg7 h7 rfl rfl ⟨k6.out.good.pos, k6.out.good.n, k6.out.good.held, k6.out.good.cache, (fun h => by cases h), k6.out.good.fails⟩)
       have t7 := Lib.hid (t6.out.trans (Tch.of_grown hg7 (g_in p)))
       have hr7 := Lib.hid k7.out.row
       clear h7 hg7)
    | ((with_reducible refine wpList_store_at rfl 78 (.tmp 24) (.tmp 20) rfl (o := 6) rfl rfl hr7.out (size74b _ _) (fuse_fit6 _ _ _ _) (fuse_one _ _) ?_)
       intro w8 h8 hg8
       have k8 := Lib.hid (k7.out.struct (d' := crRes d ks) hg8 h8 rfl rfl ⟨k7.out.good.pos, k7.out.good.n, k7.out.good.held, k7.out.good.cache, (fun h => by cases h), (fun h => by cases h)⟩)
       have t8 := Lib.hid (t7.out.trans (Tch.of_grown hg8 (g_in p)))
       clear h8 hg8))
  go_ret
  exact ⟨rfl, k8.out, t8.out⟩

end Go.Proofs.YtjhnagipagkhiaaGreat
