/- The closures of Write, Sync, Read and Crash. -/
import Derived.Test.YtjhnagipagkhiaaGreatChg
namespace Go.Proofs.YtjhnagipagkhiaaGreat
open Go.RowKit

def upd (c : Int → Option (List Int)) (i : Int) (b : List Int) : Int → Option (List Int) := fun j => if j = i then some b else c j
theorem cf_upd (c : Int → Option (List Int)) (i : Int) (b : List Int) : cf (upd c i b) = fun j => if j = i then some (agg b) else cf c j := by
  funext j
  unfold cf upd
  by_cases h : j = i
  · simp [h]
  · simp [h]
def dWrite (d : Dk) (i : Int) (b : List Int) : Dk := { d with cache := upd d.cache i b }

structure WrRel (w : World) (B : Nat) (p : Pl) (i : Int) (b : List Int) : Prop where
  b0 : RowV 24 w B [ptr p]
  b1 : RowV 3 w (B + 1) [.int .i64 i]
  b2 : RowV 48 w (B + 2) (bl b)

theorem add0 (g j : Nat) : (⟨g, 0, none⟩ : Addr).add j = ⟨g, j, none⟩ := by unfold Addr.add; split <;> simp_all

theorem load_blk {w : World} {g : Nat} {b : List Int} (h : RowV 48 w g (bl b)) (hb : b.length = 64) : (loadVar 48 ⟨g, 0, none⟩).run Tryz.prog w = .ok (agg b) w :=
  run_loadVar_at Tryz.underlying48 rfl (bl_size hb) ⟨g, 0, none⟩ (h.part (o := 0) (pre := []) (rest := []) (bl_part b) rfl)

/-- a value of several cells, loaded in a region that draws its order -/
theorem still_load {P : Program} {ops : Array Oper} {w : World} {Q : Act → Prop} {a : Act} {o : Oper} {rest : List Oper} (hgd : o.guard = none) (ty : TypeId) (x : Operand) (ho : o.op = .load ty x) {v : Value} {ad : Addr} (hx : a.eval x = .pointer (some ad))
    (hld : (loadVar ty ad).run P w = .ok v w) (h : wpStill P ops w Q rest (a.put o.dst v)) : wpStill P ops w Q (o :: rest) a := by
  unfold wpStill
  rw [if_pos (by simp [Region.wanted, hgd])]
  unfold Oper.still execOp
  simp only [ho, hx, Instr.loadAt, Instr.sureAddr, Sem.run_bind, Sem.run_pure, Result.andThen_ok, hld]
  exact ⟨rfl, h⟩

set_option maxRecDepth 100000 in
set_option maxHeartbeats 2000000 in
theorem write1_any (p : Pl) (d : Dk) (w : World) (k : At w p d) (B : Nat) (i : Int) (b : List Int) (hr : WrRel w B p i b) (hb : b.length = 64) (hi0 : 0 ≤ i) (hi : i < d.held.length) :
    Calls Tryz.prog 96 #[.pointer (some ⟨B + 2, 0, none⟩), .pointer (some ⟨B, 0, none⟩), .pointer (some ⟨B + 1, 0, none⟩)] w (fun e w' => e = .returned (.tuple #[]) ∧ At w' p (dWrite d i b) ∧ Tch p.L w w') := by
  obtain ⟨cn, hm⟩ := k.map
  have hm' := Lib.hid (hm.block (w' := w.drew) rfl)
  have c1 : w.cell? ⟨p.g, 1, none⟩ = some (.map (some p.m)) := k.row.cell 1
  have b0 : w.cell? ⟨B, 0, none⟩ = some (ptr p) := hr.b0.cell 0
  have b1 : w.cell? ⟨B + 1, 0, none⟩ = some (.int .i64 i) := hr.b1.cell 0
  have hld := load_blk (hr.b2.block (w' := w.drew) rfl) hb
  have hk := Lib.hid (k.block (w' := w.drew) rfl rfl rfl)
  have ht : Hid (Tch p.L w w.drew) := (Tch.refl _ _).drew
  clear k hm hr
  go_enter Tryz.func96, Tryz.ntmps96
  go_still_tail 6, (by kernel_rfl)
  change wpStill _ _ (World.drew w) (fun a' => wpList _ _ _ _ a' (World.drew w)) _ _
  refine still_load rfl 48 (.tmp 0) rfl rfl hld ?_
  refine wpStill_nil ?_
  go_wp2_with (
    (with_reducible refine wpList_update_i (val := agg b) (k := i) (b := p.m) rfl (.tmp 6) (.tmp 7) (.tmp 8) 76 rfl Tryz.underlying76 Tryz.underlying3 rfl rfl rfl hm'.out ?_)
    intro w4 hm4 hg4
    rw [← cf_upd] at hm4)
  go_end0
  refine ⟨rfl, hk.out.cached hg4 hm4 (fun j x hx => ?_), ht.out.grown hg4 (.inl (m_in p))⟩
  unfold upd at hx
  by_cases hj : j = i
  · rw [if_pos hj] at hx
    cases hx
    exact ⟨by omega, by omega, hb⟩
  · rw [if_neg hj] at hx
    exact hk.out.good.cache j x hx

theorem sync2_any (w : World) : Calls Tryz.prog 100 #[] w (fun e w' => e = .returned (.tuple #[]) ∧ w' = w) := by
  go_enter Tryz.func100, Tryz.ntmps100
  go_wp2
  go_end0
  exact ⟨rfl, rfl⟩
theorem sync11_any (n : Int) (w : World) : Calls Tryz.prog 99 #[.int .i64 n] w (fun e w' => e = .returned (.bool true) ∧ w' = w) := by
  go_enter Tryz.func99, Tryz.ntmps99
  go_wp2
  go_ret
  exact ⟨rfl, rfl⟩

def dSettle (d : Dk) (kp : Nat → Bool) : Dk := { d with held := (sett kp d.cache d.held d.pend).2, cache := fun _ => none }

theorem sync1_any (p : Pl) (d : Dk) (w : World) (k : At w p d) (B : Nat) (hr : RowV 24 w B [ptr p]) :
    Calls Tryz.prog 98 #[.pointer (some ⟨B, 0, none⟩)] w (fun e w' => e = .returned (.tuple #[]) ∧ At w' p (dSettle d fun _ => true) ∧ Tch p.L w w') := by
  have b0 : w.cell? ⟨B, 0, none⟩ = some (ptr p) := hr.cell 0
  have cS := settle_any p d w k 99 #[] (fun _ => true) (enters_of Tryz.func99 (by kernel_rfl) rfl) (fun nth W _ _ => sync11_any nth W)
  clear k hr
  go_enter Tryz.func98, Tryz.ntmps98
  go_wp2_with (go_at_call 41; refine cS.mono ?_; clear cS; rintro e w' ⟨rfl, h⟩; have h' := Lib.hid h; clear h)
  go_end0
  exact ⟨rfl, h'.out.1, h'.out.2⟩

set_option maxRecDepth 100000 in
set_option maxHeartbeats 1000000 in
theorem read1_any (p : Pl) (d : Dk) (w : World) (k : At w p d) (B : Nat) (i : Nat) (cs : List Int) (h0 : RowV 24 w B [ptr p]) (h1 : RowV 3 w (B + 1) [.int .i64 i]) (h2 : RowV 48 w (B + 3) (bl cs)) (hcs : cs.length = 64) (hi : i < d.held.length) :
    Calls Tryz.prog 44 #[.pointer (some ⟨B, 0, none⟩), .pointer (some ⟨B + 1, 0, none⟩), .pointer (some ⟨B + 3, 0, none⟩)] w (fun e w' => e = .returned (.tuple #[]) ∧ RowV 48 w' (B + 3) (bl (d.says i)) ∧ Tch [B + 3] w w') := by
  have b0 : w.cell? ⟨B, 0, none⟩ = some (ptr p) := h0.cell 0
  have b1 : w.cell? ⟨B + 1, 0, none⟩ = some (.int .i64 i) := h1.cell 0
  have hl := Dk.says_len k.good (i := (i : Int)) (by omega) (by omega)
  have hk := Lib.hid k
  have h2' := Lib.hid h2
  clear k h0 h1 h2
  go_enter Tryz.func44, Tryz.ntmps44
  go_wp2_with (first
    | (go_at_call 45; refine (dsays_any p d i w hk.out hi).mono ?_; rintro e w' ⟨rfl, hb⟩; have hb' := Lib.hid hb; have hr' := Lib.hid (h2'.out.below hb); clear hb)
    | ((with_reducible refine wpList_store_at rfl 48 (.tmp 2) (.tmp 5) rfl (o := 0) rfl rfl hr'.out (bl_size hl) (bl_fits hl hcs) (bl_one (d.says i)) ?_)
       intro w3 h3 hg3
       rw [bl_splice hl hcs] at h3))
  go_end0
  exact ⟨rfl, h3, (Tch.of_below hb'.out _).trans (Tch.of_grown hg3 (by simp))⟩

/-- the closure of Crash: is there such a part, and is it true? -/
def keepOf (ks : List Bool) (nth : Nat) : Bool := (ks[nth]?).getD false

theorem crash1_any (v : Value) (ks : List Bool) (nth : Nat) (w : World) (B : Nat) (hr : RowV 40 w B [v]) (hv : ∃ q c, v = .slice q ks.length c ∧ (q = none → ks = []) ∧ ∀ a, q = some a → ∀ j x, ks[j]? = some x → w.cell? (a.add j) = some (.bool x)) :
    Calls Tryz.prog 42 #[.int .i64 nth, .pointer (some ⟨B, 0, none⟩)] w (fun e w' => e = .returned (.bool (keepOf ks nth)) ∧ w' = w) := by
  obtain ⟨q, c, rfl, h0, h1⟩ := hv
  have b0 : w.cell? ⟨B, 0, none⟩ = some (.slice q ks.length c) := hr.cell 0
  clear hr
  by_cases hn : nth < ks.length
  · cases q with
    | none => rw [h0 rfl] at hn; simp at hn
    | some a =>
      have hx := List.getElem?_eq_getElem hn
      have cx := h1 a rfl nth _ hx
      have hn' : (nth : Int) < ks.length := by omega
      have hke : keepOf ks nth = ks[nth] := by unfold keepOf; rw [hx]; rfl
      rw [hke]
      clear h0 h1 hx
      go_enter Tryz.func42, Tryz.ntmps42
      go_wp2
      go_ret
      exact ⟨rfl, rfl⟩
  · have hn' : (ks.length : Int) ≤ nth := by omega
    have hke : keepOf ks nth = false := by unfold keepOf; rw [List.getElem?_eq_none (by omega)]; rfl
    rw [hke]
    clear h0 h1
    go_enter Tryz.func42, Tryz.ntmps42
    go_wp2
    go_ret
    exact ⟨rfl, rfl⟩

end Go.Proofs.YtjhnagipagkhiaaGreat
