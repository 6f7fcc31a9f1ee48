/- The methods of a disk, by their contracts: New, Write, Read, Sync, Arm, Fail, Crash. -/
import Derived.Test.YtjhnagipagkhiaaGreatClos
import Derived.Laws.ResultCell
import Derived.Laws.MakeOwn
namespace Go.Proofs.YtjhnagipagkhiaaGreat
open Go.RowKit

theorem results_blk_tmp {f : Func} {r u : Tmp} (h : f.results = #[.cell r 48, .tmp u]) (tmps : Array Value) (w : World) (g : Nat) (b : List Int) (hb : b.length = 64) (hp : tmps.getD r undef = .pointer (some ⟨g, 0, none⟩)) (hr : RowV 48 w g (bl b)) (v : Value) (hv : tmps.getD u undef = v) :
    (results f tmps).run Tryz.prog w = .ok (.tuple #[agg b, v]) w := by
  rw [results_cell_tmp h, hp, hv]
  have := load_blk hr hb
  simp only [asAddr, Sem.run_pure, Result.andThen_ok, this]

/-! ### Write -/
def wrRes (d : Dk) (i : Int) (b : List Int) : Int × Dk :=
  if why d 2 i ≠ 0 then (why d 2 i, d) else if hit d.al d.an = true then (9, dWrite (dDead d) i b) else if hit d.fl d.fn = true then (8, dFail d) else (0, dWrite (dDone d) i b)

theorem wr_start (w : World) (p : Pl) (i : Int) (b : List Int) : WrRel (((w.alloc (.cells #[ptr p] 24)).alloc (.cells #[.int .i64 i] 3)).alloc (.cells (bl b).toArray 48)) w.heap.size p i b := by
  refine ⟨((RowV.made w [ptr p]).block (heap_alloc_old _ _ (by simp))).block (heap_alloc_old _ _ (by simp; omega)), ?_, ?_⟩
  · have h := (RowV.made (T := 3) (w.alloc (.cells #[ptr p] 24)) [.int .i64 i]).block (heap_alloc_old _ (.cells (bl b).toArray 48) (by simp))
    rw [World.size_alloc] at h
    exact h
  · have h := RowV.made (T := 48) ((w.alloc (.cells #[ptr p] 24)).alloc (.cells #[.int .i64 i] 3)) (bl b)
    rw [World.size_alloc, World.size_alloc] at h
    exact h
theorem WrRel.tch {W W' : World} {B : Nat} {p : Pl} {i : Int} {b : List Int} (h : WrRel W B p i b) (ht : Tch p.L W W') (h0 : B ∉ p.L) (h1 : B + 1 ∉ p.L) (h2 : B + 2 ∉ p.L) : WrRel W' B p i b := ⟨h.b0.tch ht h0, h.b1.tch ht h1, h.b2.tch ht h2⟩
theorem wr_below (w : World) (p : Pl) (i : Int) (b : List Int) : Below w.heap.size w (((w.alloc (.cells #[ptr p] 24)).alloc (.cells #[.int .i64 i] 3)).alloc (.cells (bl b).toArray 48)) :=
  (((Below.refl _ _).alloc (Nat.le_refl _) _).alloc (by simp) _).alloc (by simp; omega) _

theorem why_ok {d : Dk} {i : Int} (h : why d 2 i = 0) : d.dead = false ∧ 0 ≤ i ∧ i < d.held.length := by
  unfold why at h
  split at h
  · cases h
  · rename_i h1
    split at h
    · cases h
    · rename_i h2
      refine ⟨?_, ?_⟩
      · cases hd : d.dead
        · rfl
        · exact absurd ⟨hd, by decide⟩ h1
      · have : ¬ ¬ (0 ≤ i ∧ i < d.held.length) := fun h3 => h2 ⟨rfl, h3⟩
        omega

set_option maxRecDepth 100000 in
set_option maxHeartbeats 1000000 in
theorem write_any (p : Pl) (d : Dk) (w : World) (k : At w p d) (ho : 0 ≤ d.ops) (ho1 : d.ops < 4611686018427387904) (i : Int) (b : List Int) (hb : b.length = 64) :
    Calls Tryz.prog 73 #[ptr p, .int .i64 i, agg b] w (fun e w' => e = .returned (.int .i64 (wrRes d i b).1) ∧ At w' p (wrRes d i b).2 ∧ Tch p.L w w') := by
  have hbl := Lib.hid (wr_below w p i b)
  have hrel := Lib.hid (wr_start w p i b)
  have k1 := Lib.hid (k.below hbl.out)
  have hn0 := k.not_in (Nat.le_refl _)
  have hn1 := k.not_in (j := w.heap.size + 1) (by omega)
  have hn2 := k.not_in (j := w.heap.size + 2) (by omega)
  have b0 := hrel.out.b0.cell 0
  have b1 := hrel.out.b1.cell 0
  simp only [List.getElem?_cons_zero] at b0 b1
  have ht0 := Lib.hid (Tch.of_below hbl.out p.L)
  clear k
  by_cases h0 : why d 2 i = 0
  · have hi := why_ok h0
    by_cases h1 : hit d.al d.an = true
    · have hres : wrRes d i b = (9, dWrite (dDead d) i b) := by simp [wrRes, h0, h1]
      rw [hres]
      have cD := change_cut p d _ k1.out h1 ho ho1 (.func (.func 96) #[] #[.pointer (some ⟨w.heap.size + 2, 0, none⟩), .pointer (some ⟨w.heap.size, 0, none⟩), .pointer (some ⟨w.heap.size + 1, 0, none⟩)]) ⟨_, _, _, rfl⟩ 96 #[.pointer (some ⟨w.heap.size + 2, 0, none⟩), .pointer (some ⟨w.heap.size, 0, none⟩), .pointer (some ⟨w.heap.size + 1, 0, none⟩)] (enters_of Tryz.func96 (by kernel_rfl) rfl)
        (fun W' => At W' p (dWrite (dDead d) i b) ∧ Tch p.L w W') (fun W kW tW => (write1_any p (dDead d) W kW w.heap.size i b (hrel.out.tch tW hn0 hn1 hn2) hb hi.2.1 hi.2.2).mono (by
          rintro e W' ⟨rfl, h2, h3⟩
          exact ⟨rfl, h2, (ht0.out.trans tW).trans h3⟩))
      have hcl := Lib.hid cD
      clear cD hres
      go_enter Tryz.func73, Tryz.ntmps73
      go_wp2_with (first
        | (go_at_call 40; refine (refuse_any p d 2 i (by decide) _ k1.out).mono ?_; rintro e w' ⟨rfl, rfl⟩; rw [h0])
        | (go_at_call 97; refine hcl.out.mono ?_; clear hcl; rintro e w5 ⟨rfl, hR⟩; have hR' := Lib.hid hR; clear hR))
      go_ret
      exact ⟨rfl, hR'.out⟩
    · have h1' : hit d.al d.an = false := by simpa using h1
      by_cases h2 : hit d.fl d.fn = true
      · have hres : wrRes d i b = (8, dFail d) := by simp [wrRes, h0, h1', h2]
        rw [hres]
        have hcl := Lib.hid (change_fails p d _ k1.out h1' h2 ho ho1 (.func (.func 96) #[] #[.pointer (some ⟨w.heap.size + 2, 0, none⟩), .pointer (some ⟨w.heap.size, 0, none⟩), .pointer (some ⟨w.heap.size + 1, 0, none⟩)]) (.func (.func 96) #[] #[.pointer (some ⟨w.heap.size + 2, 0, none⟩), .pointer (some ⟨w.heap.size, 0, none⟩), .pointer (some ⟨w.heap.size + 1, 0, none⟩)]) ⟨_, _, _, rfl⟩)
        clear hres
        go_enter Tryz.func73, Tryz.ntmps73
        go_wp2_with (first
          | (go_at_call 40; refine (refuse_any p d 2 i (by decide) _ k1.out).mono ?_; rintro e w' ⟨rfl, rfl⟩; rw [h0])
          | (go_at_call 97; refine hcl.out.mono ?_; clear hcl; rintro e w5 ⟨rfl, hR⟩; have hR' := Lib.hid hR; clear hR))
        go_ret
        exact ⟨rfl, hR'.out.1, ht0.out.trans hR'.out.2⟩
      · have h2' : hit d.fl d.fn = false := by simpa using h2
        have hres : wrRes d i b = (0, dWrite (dDone d) i b) := by simp [wrRes, h0, h1', h2']
        rw [hres]
        have hcl := Lib.hid (change_done p d _ k1.out h1' h2' ho ho1 96 #[.pointer (some ⟨w.heap.size + 2, 0, none⟩), .pointer (some ⟨w.heap.size, 0, none⟩), .pointer (some ⟨w.heap.size + 1, 0, none⟩)] (.func (.func 96) #[] #[.pointer (some ⟨w.heap.size + 2, 0, none⟩), .pointer (some ⟨w.heap.size, 0, none⟩), .pointer (some ⟨w.heap.size + 1, 0, none⟩)]) (enters_of Tryz.func96 (by kernel_rfl) rfl)
          (fun W' => At W' p (dWrite (dDone d) i b) ∧ Tch p.L w W') (fun W kW tW => (write1_any p (dDone d) W kW w.heap.size i b (hrel.out.tch tW hn0 hn1 hn2) hb hi.2.1 hi.2.2).mono (by
            rintro e W' ⟨rfl, h2, h3⟩
            exact ⟨rfl, h2, (ht0.out.trans tW).trans h3⟩)))
        clear hres
        go_enter Tryz.func73, Tryz.ntmps73
        go_wp2_with (first
          | (go_at_call 40; refine (refuse_any p d 2 i (by decide) _ k1.out).mono ?_; rintro e w' ⟨rfl, rfl⟩; rw [h0])
          | (go_at_call 97; refine hcl.out.mono ?_; clear hcl; rintro e w5 ⟨rfl, hR⟩; have hR' := Lib.hid hR; clear hR))
        go_ret
        exact ⟨rfl, hR'.out⟩
  · have hres : wrRes d i b = (why d 2 i, d) := by simp [wrRes, h0]
    rw [hres]
    obtain ⟨y, hy⟩ : ∃ y, why d 2 i = y := ⟨_, rfl⟩
    rw [hy] at h0 ⊢
    clear hres
    have hbn : (y != 0) = true := by simpa using h0
    go_enter Tryz.func73, Tryz.ntmps73
    go_wp2_with (go_at_call 40; refine (refuse_any p d 2 i (by decide) _ k1.out).mono ?_; rintro e w' ⟨rfl, rfl⟩; rw [hy])
    go_ret
    exact ⟨rfl, k1.out, ht0.out⟩

end Go.Proofs.YtjhnagipagkhiaaGreat
