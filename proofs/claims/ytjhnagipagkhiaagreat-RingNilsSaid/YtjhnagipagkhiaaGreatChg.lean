/- A change: cut by the power's end, failing, or done. -/
import Derived.Test.YtjhnagipagkhiaaGreatOper
namespace Go.Proofs.YtjhnagipagkhiaaGreat
open Go.RowKit

def dDead (d : Dk) : Dk := { d with ops := d.ops + 1, dead := true }
def dFail (d : Dk) : Dk := { d with ops := d.ops + 1, fl := false, fn := 0 }
def dDone (d : Dk) : Dk := { d with ops := d.ops + 1, fn := burnt d.fl d.fn, an := burnt d.al d.an }

theorem ch_start (w : World) (p : Pl) (dov : Value) : ChRel ((w.alloc (.cells #[ptr p] 24)).alloc (.cells #[dov] 1)) w.heap.size p dov := by
  refine ⟨(RowV.made w [ptr p]).block (heap_alloc_old _ _ (by simp)), ?_⟩
  have h := RowV.made (T := 1) (w.alloc (.cells #[ptr p] 24)) [dov]
  rw [World.size_alloc] at h
  exact h
theorem ch_below (w : World) (p : Pl) (dov : Value) : Below w.heap.size w ((w.alloc (.cells #[ptr p] 24)).alloc (.cells #[dov] 1)) :=
  ((Below.refl _ _).alloc (Nat.le_refl _) _).alloc (by simp) _
theorem ChRel.tch {W W' : World} {B : Nat} {p : Pl} {dov : Value} (h : ChRel W B p dov) (ht : Tch p.L W W') (h0 : B ∉ p.L) (h1 : B + 1 ∉ p.L) : ChRel W' B p dov := ⟨h.b0.tch ht h0, h.b1.tch ht h1⟩
theorem At.not_in {w : World} {p : Pl} {d : Dk} (k : At w p d) {j : Nat} (hj : w.heap.size ≤ j) : j ∉ p.L := by
  intro h
  have h1 := k.glt
  have h2 := k.hlt
  have h3 := k.mlt
  simp only [Pl.L, List.mem_cons, List.not_mem_nil, or_false] at h
  omega

set_option maxHeartbeats 1000000 in
theorem change_cut (p : Pl) (d : Dk) (w : World) (k : At w p d) (hh : hit d.al d.an = true) (ho : 0 ≤ d.ops) (ho1 : d.ops < 4611686018427387904) (dov : Value) (hdv : ∃ f b l, dov = .func f b l) (kf : Nat) (lc : Array Value) (eg : ∀ args w, (callFunc kf args).run Tryz.prog w = .ok (.enter kf args) w) (R : World → Prop)
    (hcut : ∀ W, At W p (dDead d) → Tch p.L w W → Calls Tryz.prog kf lc W (fun e W' => e = .returned (.tuple #[]) ∧ R W')) :
    Calls Tryz.prog 97 #[ptr p, dov, .func (.func kf) #[] lc] w (fun e w' => e = .returned (.int .i64 9) ∧ R w') := by
  obtain ⟨f0, bb, ll, rfl⟩ := hdv
  have hb := Lib.hid (ch_below w p (.func f0 bb ll))
  have hc := Lib.hid (ch_start w p (.func f0 bb ll))
  have k1 := Lib.hid (k.below hb.out)
  have hr1 := Lib.hid k1.out.row
  have k2 := Lib.hid k1.out.count
  have k3 := Lib.hid (k2.out.field (d' := dDead d) 3 (.bool true) rfl rfl rfl ⟨k.good.pos, k.good.n, k.good.held, k.good.cache, k.good.armed, k.good.fails⟩)
  have c2 := k1.out.row.cell 2
  have f2 := k1.out.row.free 2
  have c3 := k2.out.row.cell 3
  have f3 := k2.out.row.free 3
  simp only [List.getElem?_cons_succ, List.getElem?_cons_zero] at c2 c3
  have b0 := hc.out.b0.cell 0
  have hn0 := k.not_in (Nat.le_refl _)
  have b0' := (hc.out.b0.tch (tch_g _ p 2 (.int .i64 (d.ops + 1))) hn0).cell 0
  simp only [List.getElem?_cons_zero] at b0 b0'
  have cD := hcut _ k3.out (((Tch.of_below hb.out p.L).trans (tch_g _ p 2 _)).trans (tch_g _ p 3 _))
  have ha1 := hh
  clear k hcut hh
  go_enter Tryz.func97, Tryz.ntmps97
  go_wp2_with (first
    | (go_at_call 71; refine (strikes_any p.g 4 d.al d.an _ (hr1.out.cell 4) (hr1.out.cell 5)).mono ?_; rintro e w' ⟨rfl, rfl⟩; rw [ha1])
    | (refine cD.mono ?_; clear cD; rintro e w5 ⟨rfl, hR⟩; have hR' := Lib.hid hR; clear hR))
  go_ret
  exact ⟨rfl, hR'.out⟩

set_option maxHeartbeats 1000000 in
theorem change_fails (p : Pl) (d : Dk) (w : World) (k : At w p d) (hh : hit d.al d.an = false) (hf : hit d.fl d.fn = true) (ho : 0 ≤ d.ops) (ho1 : d.ops < 4611686018427387904) (dov cv : Value) (hdv : ∃ f b l, dov = .func f b l) :
    Calls Tryz.prog 97 #[ptr p, dov, cv] w (fun e w' => e = .returned (.int .i64 8) ∧ At w' p (dFail d) ∧ Tch p.L w w') := by
  obtain ⟨f0, bb, ll, rfl⟩ := hdv
  have hb := Lib.hid (ch_below w p (.func f0 bb ll))
  have hc := Lib.hid (ch_start w p (.func f0 bb ll))
  have k1 := Lib.hid (k.below hb.out)
  have hr1 := Lib.hid k1.out.row
  have b0 := hc.out.b0.cell 0
  simp only [List.getElem?_cons_zero] at b0
  have ha1 := hh
  clear k hh
  go_enter Tryz.func97, Tryz.ntmps97
  go_wp2_with (first
    | (go_at_call 71; refine (strikes_any p.g 4 d.al d.an _ (hr1.out.cell 4) (hr1.out.cell 5)).mono ?_; rintro e w' ⟨rfl, rfl⟩; rw [ha1])
    | (go_at_call 43; refine (operate_hit p d _ k1.out hf ho ho1 _).mono ?_; rintro e w' ⟨rfl, h1, h2⟩; have h1' := Lib.hid h1; have h2' := Lib.hid h2; clear h1 h2))
  go_ret
  exact ⟨rfl, h1'.out, (Tch.of_below hb.out p.L).trans h2'.out⟩

set_option maxHeartbeats 1000000 in
theorem change_done (p : Pl) (d : Dk) (w : World) (k : At w p d) (hh : hit d.al d.an = false) (hf : hit d.fl d.fn = false) (ho : 0 ≤ d.ops) (ho1 : d.ops < 4611686018427387904) (kf : Nat) (lb : Array Value) (cv : Value) (eg : ∀ args w, (callFunc kf args).run Tryz.prog w = .ok (.enter kf args) w) (R : World → Prop)
    (hdo : ∀ W, At W p (dDone d) → Tch p.L w W → Calls Tryz.prog kf lb W (fun e W' => e = .returned (.tuple #[]) ∧ R W')) :
    Calls Tryz.prog 97 #[ptr p, .func (.func kf) #[] lb, cv] w (fun e w' => e = .returned (.int .i64 0) ∧ R w') := by
  have hb := Lib.hid (ch_below w p (.func (.func kf) #[] lb))
  have hc := Lib.hid (ch_start w p (.func (.func kf) #[] lb))
  have k1 := Lib.hid (k.below hb.out)
  have hr1 := Lib.hid k1.out.row
  have b0 := hc.out.b0.cell 0
  simp only [List.getElem?_cons_zero] at b0
  have hn0 := k.not_in (Nat.le_refl _)
  have hn1 := k.not_in (j := w.heap.size + 1) (by omega)
  have ha1 := hh
  have cD := operate_ok p d _ k1.out hf ho ho1 118 #[.pointer (some ⟨w.heap.size, 0, none⟩), .pointer (some ⟨w.heap.size + 1, 0, none⟩)] (enters_of Tryz.func118 (by kernel_rfl) rfl) R (fun W kW tW => by
    refine change1_any p _ W kW w.heap.size kf lb (hc.out.tch tW hn0 hn1) hh eg R hn1 (fun W2 k2 t2 => ?_)
    exact hdo W2 k2 (((Tch.of_below hb.out p.L).trans tW).trans t2))
  clear k hh hdo
  go_enter Tryz.func97, Tryz.ntmps97
  go_wp2_with (first
    | (go_at_call 71; refine (strikes_any p.g 4 d.al d.an _ (hr1.out.cell 4) (hr1.out.cell 5)).mono ?_; rintro e w' ⟨rfl, rfl⟩; rw [ha1])
    | (go_at_call 43; refine cD.mono ?_; clear cD; rintro e w' ⟨rfl, hR⟩; have hR' := Lib.hid hR; clear hR))
  go_ret
  exact ⟨rfl, hR'.out⟩

end Go.Proofs.YtjhnagipagkhiaaGreat
