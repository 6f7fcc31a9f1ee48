/- The closures of Write, Sync, Read and Crash. -/
import Derived.Test.YtfpiojdfglbdpaaChg
namespace Go.Proofs.Ytfpiojdfglbdpaa
open Go.RowKit

def upd (c : Int → Option (List Int)) (i : Int) (b : List Int) : Int → Option (List Int) := fun j => if j = i then some b else c j
theorem cf_upd (c : Int → Option (List Int)) (i : Int) (b : List Int) : cf (upd c i b) = fun j => if j = i then some (agg b) else cf c j := by
  funext j
  unfold cf upd
  by_cases h : j = i
  · simp [h]
  · simp [h]
def dWrite (d : Dk) (i : Int) (b : List Int) : Dk := { d with cache := upd d.cache i b }

structure WrRel (w : World) (B : Nat) (p : Pl) (i : Int) (b : List Int) : Prop where
  b0 : RowV 25 w B [ptr p]
  b1 : RowV 3 w (B + 1) [.int .i64 i]
  b2 : RowV 64 w (B + 2) (bl b)

theorem add0 (g j : Nat) : (⟨g, 0, none⟩ : Addr).add j = ⟨g, j, none⟩ := by unfold Addr.add; split <;> simp_all

theorem load_blk {w : World} {g : Nat} {b : List Int} (h : RowV 64 w g (bl b)) (hb : b.length = 64) : (loadVar 64 ⟨g, 0, none⟩).run Try.prog w = .ok (agg b) w :=
  run_loadVar_at Try.underlying64 rfl (bl_size hb) ⟨g, 0, none⟩ (h.part (o := 0) (pre := []) (rest := []) (bl_part b) rfl)

/-- a value of several cells, loaded in a region that draws its order -/
theorem still_load {P : Program} {ops : Array Oper} {w : World} {Q : Act → Prop} {a : Act} {o : Oper} {rest : List Oper} (hgd : o.guard = none) (ty : TypeId) (x : Operand) (ho : o.op = .load ty x) {v : Value} {ad : Addr} (hx : a.eval x = .pointer (some ad))
    (hld : (loadVar ty ad).run P w = .ok v w) (h : wpStill P ops w Q rest (a.put o.dst v)) : wpStill P ops w Q (o :: rest) a := by
  unfold wpStill
  rw [if_pos (by simp [Region.wanted, hgd])]
  unfold Oper.still execOp
  simp only [ho, hx, Instr.loadAt, Instr.sureAddr, Sem.run_bind, Sem.run_pure, Result.andThen_ok, hld]
  exact ⟨rfl, h⟩

set_option maxRecDepth 100000 in
set_option maxHeartbeats 2000000 in
theorem write1_any (p : Pl) (d : Dk) (w : World) (k : At w p d) (B : Nat) (i : Int) (b : List Int) (hr : WrRel w B p i b) (hb : b.length = 64) (hi0 : 0 ≤ i) (hi : i < d.held.length) :
    Calls Try.prog 35 #[.pointer (some ⟨B + 2, 0, none⟩), .pointer (some ⟨B, 0, none⟩), .pointer (some ⟨B + 1, 0, none⟩)] w (fun e w' => e = .returned (.tuple #[]) ∧ At w' p (dWrite d i b) ∧ Tch p.L w w') := by
  obtain ⟨cn, hm⟩ := k.map
  have hm' := Lib.hid (hm.block (w' := w.drew) rfl)
  have c1 : w.cell? ⟨p.g, 1, none⟩ = some (.map (some p.m)) := k.row.cell 1
  have b0 : w.cell? ⟨B, 0, none⟩ = some (ptr p) := hr.b0.cell 0
  have b1 : w.cell? ⟨B + 1, 0, none⟩ = some (.int .i64 i) := hr.b1.cell 0
  have hld := load_blk (hr.b2.block (w' := w.drew) rfl) hb
  have hk := Lib.hid (k.block (w' := w.drew) rfl rfl rfl)
  have ht : Hid (Tch p.L w w.drew) := (Tch.refl _ _).drew
  clear k hm hr
  go_enter Try.func35, Try.ntmps35
  go_still_tail 6, (by kernel_rfl)
  change wpStill _ _ (World.drew w) (fun a' => wpList _ _ _ _ a' (World.drew w)) _ _
  refine still_load rfl 64 (.tmp 0) rfl rfl hld ?_
  refine wpStill_nil ?_
  go_wp2_with (
    (with_reducible refine wpList_update_i (val := agg b) (k := i) (b := p.m) rfl (.tmp 6) (.tmp 7) (.tmp 8) 56 rfl Try.underlying56 Try.underlying3 rfl rfl rfl hm'.out ?_)
    intro w4 hm4 hg4
    rw [← cf_upd] at hm4)
  go_end0
  refine ⟨rfl, hk.out.cached hg4 hm4 (fun j x hx => ?_), ht.out.grown hg4 (.inl (m_in p))⟩
  unfold upd at hx
  by_cases hj : j = i
  · rw [if_pos hj] at hx
    cases hx
    exact ⟨by omega, by omega, hb⟩
  · rw [if_neg hj] at hx
    exact hk.out.good.cache j x hx

theorem sync2_any (w : World) : Calls Try.prog 40 #[] w (fun e w' => e = .returned (.tuple #[]) ∧ w' = w) := by
  go_enter Try.func40, Try.ntmps40
  go_wp2
  go_end0
  exact ⟨rfl, rfl⟩
theorem sync11_any (n : Int) (w : World) : Calls Try.prog 39 #[.int .i64 n] w (fun e w' => e = .returned (.bool true) ∧ w' = w) := by
  go_enter Try.func39, Try.ntmps39
  go_wp2
  go_ret
  exact ⟨rfl, rfl⟩

def dSettle (d : Dk) (kp : Nat → Bool) : Dk := { d with held := (sett kp d.cache d.held d.pend).2, cache := fun _ => none }

theorem sync1_any (p : Pl) (d : Dk) (w : World) (k : At w p d) (B : Nat) (hr : RowV 25 w B [ptr p]) :
    Calls Try.prog 37 #[.pointer (some ⟨B, 0, none⟩)] w (fun e w' => e = .returned (.tuple #[]) ∧ At w' p (dSettle d fun _ => true) ∧ Tch p.L w w') := by
  have b0 : w.cell? ⟨B, 0, none⟩ = some (ptr p) := hr.cell 0
  have cS := settle_any p d w k 39 #[] (fun _ => true) (enters_of Try.func39 (by kernel_rfl) rfl) (fun nth W _ _ => sync11_any nth W)
  clear k hr
  go_enter Try.func37, Try.ntmps37
  go_wp2_with (go_at_call 38; refine cS.mono ?_; clear cS; rintro e w' ⟨rfl, h⟩; have h' := Lib.hid h; clear h)
  go_end0
  exact ⟨rfl, h'.out.1, h'.out.2⟩

/-- the closure of Crash: is there such a part, and is it true? -/
def keepOf (ks : List Bool) (nth : Nat) : Bool := (ks[nth]?).getD false

end Go.Proofs.Ytfpiojdfglbdpaa
