/- settle: of the sectors that are pending those hold their blocks for which the closure says so; the cache is empty then. -/
import Derived.Test.YtjhnagipagkhiaaGreatRange
namespace Go.Proofs.YtjhnagipagkhiaaGreat
open Go.RowKit Go.Maps Go.Sort Go.Shelf
attribute [local go_sem] Oper.semAt_some

def stp (kp : Nat → Bool) (c : Int → Option (List Int)) (s : Nat × List (List Int)) (x : Int) : Nat × List (List Int) := (s.1 + 1, if kp s.1 = true then s.2.set x.toNat ((c x).getD []) else s.2)
def sett (kp : Nat → Bool) (c : Int → Option (List Int)) (held : List (List Int)) (xs : List Int) : Nat × List (List Int) := xs.foldl (stp kp c) (0, held)
theorem sett_snoc (kp : Nat → Bool) (c : Int → Option (List Int)) (held : List (List Int)) (xs : List Int) (x : Int) : sett kp c held (xs ++ [x]) = stp kp c (sett kp c held xs) x := by
  unfold sett; rw [List.foldl_append]; rfl
theorem sett_num (kp : Nat → Bool) (c : Int → Option (List Int)) (held : List (List Int)) (xs : List Int) : (sett kp c held xs).1 = xs.length := by
  suffices h : ∀ (xs : List Int) (s : Nat × List (List Int)), (xs.foldl (stp kp c) s).1 = s.1 + xs.length by
    have := h xs (0, held); simpa [sett] using this
  intro xs
  induction xs with
  | nil => intro s; rfl
  | cons x xs ih => intro s; rw [List.foldl_cons, ih, List.length_cons, stp]; show s.1 + 1 + xs.length = _; omega
theorem sett_len (kp : Nat → Bool) (c : Int → Option (List Int)) (held : List (List Int)) (xs : List Int) : (sett kp c held xs).2.length = held.length := by
  suffices h : ∀ (xs : List Int) (s : Nat × List (List Int)), (xs.foldl (stp kp c) s).2.length = s.2.length from h xs (0, held)
  intro xs
  induction xs with
  | nil => intro s; rfl
  | cons x xs ih =>
    intro s
    rw [List.foldl_cons, ih, stp]
    show (if _ then _ else _ : List (List Int)).length = _
    split
    · rw [List.length_set]
    · rfl

theorem zero37 (w : World) : (zeroValue 48).run Tryz.prog w = .ok (agg (List.replicate 64 0)) w := by kernel_rfl

section
variable {P : Program} {w : World} {F : Fence} {n : Nat} {ops : Array Oper} {rest : List Oper} {o : Oper} {a : Act} {Q : Exit → Act → World → Prop}
/-- 'clear(m)' at the operation, in a fence -/
theorem wpListIn_clear_i {q : IntKind} (hgd : o.guard = none) (m : Operand) (t : TypeId) (hop : o.op = Op.call { callee := Callee.builtin Builtin.clear, args := #[m], argTypes := #[t] }) {kt et : TypeId} (ht : P.underlying t = some (.map kt et)) {b cn : Nat} {f : Int → Option Value}
    (hm : a.eval m = .map (some b)) (h : IMap q w b cn f) (hK : ∀ w', IMap q w' b 0 (fun _ => none) → w.grownBy w' (some b) → wpListIn F n P ops Q rest (a.put o.dst (.tuple #[])) w') : wpListIn F n P ops Q (o :: rest) a w := by
  refine wpListIn_plain hgd fun K' hK' => ?_
  obtain ⟨w', hrun, r1, r2⟩ := run_clear_i h ht o.type
  unfold Oper.wpIn
  refine ⟨by simp [Oper.about, hop, hm, resolve, Target.leads], ?_⟩
  rw [Oper.semAt_plain F _ _ (by rw [hop]; intro c hc'; cases hc')]
  simp [execOp, hop, hm, resolve, invoke, builtin, hrun, Result.andThen]
  exact hK' _ _ (hK w' r1 r2)
end

structure SetRel (w W : World) (p : Pl) (d : Dk) (kv : Value) (n : Nat) : Prop where
  disk : At W p d
  b0 : RowV 24 W w.heap.size [ptr p]
  b1 : RowV 89 W (w.heap.size + 1) [kv]
  b2 : RowV 3 W (w.heap.size + 1 + 1) [.int .i64 n]
  tch : Tch p.L w W

theorem SetRel.putObj {w W : World} {p : Pl} {d : Dk} {kv : Value} {n l : Nat} {o : Obj} (h : SetRel w W p d kv n) (hk : p.g < w.heap.size ∧ p.h < w.heap.size ∧ p.m < w.heap.size) (hl : w.heap.size + 3 ≤ l) : SetRel w (W.putObj l o) p d kv n := by
  refine ⟨h.disk.block (World.putObj_heap_other (by omega)) (World.putObj_heap_other (by omega)) (World.putObj_heap_other (by omega)), h.b0.block (World.putObj_heap_other (by omega)), h.b1.block (World.putObj_heap_other (by omega)), h.b2.block (World.putObj_heap_other (by omega)), ?_⟩
  exact ⟨h.tch.os, h.tch.tape, h.tch.output, by simpa using h.tch.size, fun k hk hn => (World.putObj_heap_other (by omega)).trans (h.tch.block k hk hn)⟩

theorem SetRel.below {w W W' : World} {p : Pl} {d : Dk} {kv : Value} {n : Nat} (h : SetRel w W p d kv n) (hb : Below W.heap.size W W') : SetRel w W' p d kv n :=
  ⟨h.disk.below hb, h.b0.below hb, h.b1.below hb, h.b2.below hb, h.tch.trans (Tch.of_below hb _)⟩

theorem SetRel.count {w W : World} {p : Pl} {d d' : Dk} {kv : Value} {n : Nat} (h : SetRel w W p d kv n) (hk : p.g < w.heap.size ∧ p.h < w.heap.size ∧ p.m < w.heap.size) {m : Int} {n' : Nat} (hm : m = n') (hd : d' = d) : SetRel w (W.setCell ⟨w.heap.size + 1 + 1, 0, none⟩ (.int .i64 m)) p d' kv n' := by
  subst hd
  subst hm
  have hg := setCell_grown W (w.heap.size + 1 + 1) 0 (.int .i64 n')
  have hne : ∀ j, j ≠ w.heap.size + 1 + 1 → (W.setCell ⟨w.heap.size + 1 + 1, 0, none⟩ (.int .i64 n')).heap[j]? = W.heap[j]? := fun j hj => Below.heap_setCell _ _ _ _ (fun e => hj (by rw [e]))
  exact ⟨h.disk.block (hne _ (by omega)) (hne _ (by omega)) (hne _ (by omega)), h.b0.kept hg (by omega), h.b1.kept hg (by omega), h.b2.set 0 _, h.tch.setNew (p := ⟨w.heap.size + 1 + 1, 0, none⟩) (by show w.heap.size ≤ w.heap.size + 1 + 1; omega) _⟩

theorem set_start (w : World) (p : Pl) (d : Dk) (kv : Value) (k : At w p d) : SetRel w (((w.alloc (.cells #[ptr p] 24)).alloc (.cells #[kv] 89)).alloc (.cells #[.int .i64 0] 3)) p d kv 0 := by
  refine ⟨((k.alloc _).alloc _).alloc _, ?_, ?_, ?_, (((Tch.refl _ w).alloc _).alloc _).alloc _⟩
  · exact ((RowV.made w [ptr p]).block (heap_alloc_old _ _ (by simp))).block (heap_alloc_old _ _ (by simp; omega))
  · have h := (RowV.made (T := 89) (w.alloc (.cells #[ptr p] 24)) [kv]).block (heap_alloc_old _ (.cells #[.int .i64 0] 3) (by simp))
    rw [World.size_alloc] at h
    exact h
  · have h := RowV.made (T := 3) ((w.alloc (.cells #[ptr p] 24)).alloc (.cells #[kv] 89)) [.int .i64 0]
    rw [World.size_alloc, World.size_alloc] at h
    exact h

set_option maxRecDepth 100000 in
set_option maxHeartbeats 2000000 in
theorem settle_any (p : Pl) (d : Dk) (w : World) (k : At w p d) (kf : Nat) (lb : Array Value) (kp : Nat → Bool) (eg : ∀ args w, (callFunc kf args).run Tryz.prog w = .ok (.enter kf args) w)
    (hK : ∀ (nth : Nat) W, nth < 2048 → Tch p.L w W → Calls Tryz.prog kf (#[.int .i64 nth] ++ lb) W (fun e W' => e = .returned (.bool (kp nth)) ∧ W' = W)) :
    Calls Tryz.prog 41 #[ptr p, .func (.func kf) #[] lb] w (fun e w' => e = .returned (.tuple #[]) ∧ At w' p { d with held := (sett kp d.cache d.held d.pend).2, cache := fun _ => none } ∧ Tch p.L w w') := by
  refine (callsIn_wide (n := 10)).1 ?_
  have hlt : p.g < w.heap.size ∧ p.h < w.heap.size ∧ p.m < w.heap.size := ⟨k.glt, k.hlt, k.mlt⟩
  have r0 := Lib.hid (set_start w p d (.func (.func kf) #[] lb) k)
  have b0 : (((w.alloc (.cells #[ptr p] 24)).alloc (.cells #[.func (.func kf) #[] lb] 89)).alloc (.cells #[.int .i64 0] 3)).cell? ⟨w.heap.size, 0, none⟩ = some (ptr p) := r0.out.b0.cell 0
  have hk := Lib.hid k
  have hK' := Lib.hid hK
  clear k hK
  refine callsIn_of_wp_marks Tryz.func41 rfl trivial ?_ rfl
  simp only [Tryz.ntmps41, List.size_toArray, List.length_cons, List.length_nil, Nat.reduceAdd, Nat.reduceSub, Array.replicate_succ, Array.replicate_zero, List.push_toArray, List.append_toArray, List.nil_append, List.cons_append]
  gi_wp2
  refine range_each (k := r0.out.disk) rfl rfl (fun _ pre W => SetRel w W p { d with held := (sett kp d.cache d.held pre).2 } (.func (.func kf) #[] lb) pre.length)
    (fun Wf hb => r0.out.below hb) (fun _ _ _ _ _ _ hl _ _ _ _ h => h.putObj hlt (by simpa using hl))
    (fun x => { tmps := #[ptr p, .func (.func kf) #[] lb, .pointer (some ⟨w.heap.size, 0, none⟩), .pointer (some ⟨w.heap.size + 1, 0, none⟩), .pointer (some ⟨w.heap.size + 1 + 1, 0, none⟩), .int .i64 x, ptr p, .func (.func 70) #[ptr p] #[], .int .i64 x, undef, undef, undef, undef, undef, undef, undef, undef, undef, undef, undef, undef, undef, undef, undef, undef, undef, undef, undef, undef, undef], defers := [] }) ?assign ?body ?done
  case assign =>
    intro l x W K hK
    gi_wp2
    exact hK
  case body =>
    intro l Wf pre x post W hbf hwf hsp hI hle
    have hrel := Lib.hid hI
    clear hI
    have b0 : W.cell? ⟨w.heap.size, 0, none⟩ = some (ptr p) := hrel.out.b0.cell 0
    have b1 : W.cell? ⟨w.heap.size + 1, 0, none⟩ = some (.func (.func kf) #[] lb) := hrel.out.b1.cell 0
    have b2 : W.cell? ⟨w.heap.size + 1 + 1, 0, none⟩ = some (.int .i64 pre.length) := hrel.out.b2.cell 0
    have f2 : W.frozen? ⟨w.heap.size + 1 + 1, 0, none⟩ = false := hrel.out.b2.free 0
    have hlen : pre.length < 2048 := by
      have h1 := Nat.le_trans d.pend_len hk.out.good.n
      rw [hsp, List.length_append, List.length_cons] at h1
      omega
    have cK := CallsIn.inRound l ((callsIn_wide (n := 7)).2 (hK'.out pre.length W hlen hrel.out.tch))
    obtain ⟨hx0, hx1, blk, hx2, hx3⟩ := Dk.pend_mem hk.out.good (j := x) (by rw [hsp]; simp)
    obtain ⟨i, rfl⟩ : ∃ i : Nat, x = i := ⟨x.toNat, by omega⟩
    have hnx := sett_snoc kp d.cache d.held pre i
    unfold stp at hnx
    rw [sett_num] at hnx
    obtain ⟨b, hb⟩ : ∃ b, kp pre.length = b := ⟨_, rfl⟩
    cases b
    · gi_wp2
      refine ⟨trivial, cK.mono ?_⟩
      rintro e w' ⟨rfl, rfl⟩
      gi_wp2
      refine ⟨(KeepsOthers.setCell _ _ _).from _, fun j h1 _ => Below.heap_setCell _ _ _ _ (by simp at h1 ⊢; omega), ?_⟩
      refine hrel.out.count hlt (by simp) ?_
      rw [hnx]; simp [hb]
    · gi_wp2
      refine ⟨trivial, cK.mono ?_⟩
      rintro e w' ⟨rfl, rfl⟩
      gi_wp2
      refine wpIn_region_any (by kernel_rfl) (any_lift l 8 (by kernel_rfl) (by rintro ⟨_, _, h⟩; exact h) _ _ _ _ (any_tail 11 (by kernel_rfl) ?_))
      obtain ⟨cn, hm⟩ := hrel.out.disk.map
      have hlk := (run_lookup_i (P := Tryz.prog) (w := w'.drew) (hm.block rfl) Tryz.underlying76 Tryz.underlying3 (i : Int) (zero37 _)).2
      have hcf : cf d.cache (i : Int) = some (agg blk) := by unfold cf; rw [hx2]; rfl
      have c0 : w'.cell? ⟨p.g, 0, none⟩ = some (.slice (some ⟨p.h, 0, none⟩) d.held.length p.c) := by
        have := hrel.out.disk.row.cell 0
        rw [List.getElem?_cons_zero] at this
        rw [this]
        show some (Value.slice _ (sett kp d.cache d.held pre).2.length _) = _
        rw [sett_len]
      have c1 : w'.cell? ⟨p.g, 1, none⟩ = some (.map (some p.m)) := hrel.out.disk.row.cell 1
      have hi : i < d.held.length := by omega
      simp only [hcf, Option.getD_some] at hlk
      clear hcf hm
      change wpStill _ _ (World.drew w') (fun a' => wpList _ _ _ _ a' (World.drew w')) _ _
      simp only [List.take_succ_cons, List.take_zero, List.drop_succ_cons, List.drop_zero]
      repeat still_step
      refine wpStill_nil ?_
      obtain ⟨cs, hr, hfit, hback⟩ := (hrel.out.disk.block (w' := w'.drew) rfl rfl rfl).stored (i := i) (b := blk) (by show i < (sett kp d.cache d.held pre).2.length; rw [sett_len]; exact hi) hx3
      have hcb : (d.cache (i : Int)).getD [] = blk := by rw [hx2]; rfl
      have hr' := Lib.hid hr
      have hfit' := Lib.hid hfit
      have hback' := Lib.hid hback
      have hsz : (Tryz.prog.info? 48).map (·.size) = some (bl blk).length := by rw [bl_len, hx3]; exact size37
      clear hr hfit hback c0 c1 hlk cK b0 b1 hx2
      go_wp2_with (
        (with_reducible refine wpList_store_at rfl 48 (.tmp 23) (.tmp 22) rfl (o := i * 64) rfl rfl hr'.out hsz hfit'.out (bl_one blk) ?_)
        intro w4 hrow4 hg4
        have hrel4 : Hid (SetRel w w4 p { d with held := (sett kp d.cache d.held pre).2.set i blk } (.func (.func kf) #[] lb) pre.length) := by
          have hd := hback'.out w4 hrow4 hg4
          exact ⟨hd, (hrel.out.b0.block (w' := w'.drew) rfl).kept hg4 (by omega), (hrel.out.b1.block (w' := w'.drew) rfl).kept hg4 (by omega), (hrel.out.b2.block (w' := w'.drew) rfl).kept hg4 (by omega), (hrel.out.tch.drew).grown hg4 (.inl (h_in p))⟩
        have hg4' := Lib.hid hg4
        have b2' : w4.cell? ⟨w.heap.size + 1 + 1, 0, none⟩ = some (.int .i64 pre.length) := hrel4.out.b2.cell 0
        have f2' : w4.frozen? ⟨w.heap.size + 1 + 1, 0, none⟩ = false := hrel4.out.b2.free 0
        clear hrow4 hg4)
      gi_wp2
      have hlt' := hlt.2.1
      refine ⟨(((KeepsOthers.drew w').from _).trans (KeepsFrom.of_grownBy hg4'.out (fun j e => by cases e; simp; omega))).trans ((KeepsOthers.setCell _ _ _).from _), fun j h1 h2 => ?_, ?_⟩
      · rw [Below.heap_setCell _ _ _ _ (by simp at h1 ⊢; omega)]
        exact hg4'.out.block j (by show j < w'.heap.size; omega) (by simp at h1 ⊢; omega)
      · refine hrel4.out.count hlt (by simp) ?_
        rw [hnx]; simp [hb, hcb]
  case done =>
    intro D Wf W hD hbf hI hKD hD1
    have hrel := Lib.hid hI
    have b0 : W.cell? ⟨w.heap.size, 0, none⟩ = some (ptr p) := hrel.out.b0.cell 0
    have c1 : W.cell? ⟨p.g, 1, none⟩ = some (.map (some p.m)) := hrel.out.disk.row.cell 1
    obtain ⟨cn, hm⟩ := hrel.out.disk.map
    have hm' := Lib.hid hm
    clear hI hm
    gi_wp2_with (
      refine wpListIn_clear_i (cn := cn) rfl (.tmp 29) 76 rfl Tryz.underlying76 rfl hm'.out ?_
      intro w5 hm5 hg5)
    have hlt2 := hlt.2.2
    have hD' : w.heap.size + 3 ≤ D := by simpa using hD
    refine ⟨by simp, .inl ⟨_, _, rfl, run_takeDeferred ((hg5.block D (Array.getElem?_eq_some_iff.1 hKD).1 (fun e => by cases e; omega)).trans hKD), ?_⟩⟩
    have hA := hrel.out.disk.cached (c' := fun _ => none) hg5 hm5 (fun _ _ h => by cases h)
    have hlt0 := hlt.1
    have hlt1 := hlt.2.1
    refine ⟨_, results_none rfl _ _ _, rfl, hA.block (World.putObj_heap_other (by omega)) (World.putObj_heap_other (by omega)) (World.putObj_heap_other (by omega)), ?_⟩
    have ht := hrel.out.tch.grown hg5 (.inl (m_in p))
    exact ⟨ht.os, ht.tape, ht.output, by simpa using ht.size, fun j hj hn => (World.putObj_heap_other (by omega)).trans (ht.block j hj hn)⟩

end Go.Proofs.YtjhnagipagkhiaaGreat
