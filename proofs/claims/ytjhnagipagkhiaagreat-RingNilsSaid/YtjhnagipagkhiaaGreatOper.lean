/- An operation, and a change, by what their closures do. -/
import Derived.Test.YtjhnagipagkhiaaGreatDSays
namespace Go.Proofs.YtjhnagipagkhiaaGreat
open Go.RowKit

def burnt (lit : Bool) (n : Int) : Int := if lit = true then n - 1 else n
theorem size74 : (Tryz.prog.info? 78).map (·.size) = some [Value.bool false, Value.int .i64 0].length := by kernel_rfl
theorem fuse_one (b : Bool) (n : Int) : ∀ v ∈ [Value.bool b, Value.int .i64 n], v.oneCell' = true := by
  intro v hv
  simp only [List.mem_cons, List.not_mem_nil, or_false] at hv
  rcases hv with rfl | rfl <;> rfl

theorem fuse_fit6 (p : Pl) (d : Dk) (b : Bool) (n : Int) : 6 + [Value.bool b, Value.int .i64 n].length ≤ (dkL p d).length := Nat.le_refl 8
theorem fuse_fit4 (p : Pl) (d : Dk) (b : Bool) (n : Int) : 4 + [Value.bool b, Value.int .i64 n].length ≤ (dkL p d).length := by simp [dkL]

/-- counted -/
theorem At.count {w : World} {p : Pl} {d : Dk} (k : At w p d) : At (w.setCell ⟨p.g, 2, none⟩ (.int .i64 (d.ops + 1))) p { d with ops := d.ops + 1 } :=
  k.field 2 _ rfl rfl rfl ⟨k.good.pos, k.good.n, k.good.held, k.good.cache, k.good.armed, k.good.fails⟩

theorem tch_g (w : World) (p : Pl) (j : Nat) (v : Value) : Tch p.L w (w.setCell ⟨p.g, j, none⟩ v) := (Tch.refl _ _).setCell (g_in p) v

set_option maxHeartbeats 1000000 in
theorem operate_hit (p : Pl) (d : Dk) (w : World) (k : At w p d) (hh : hit d.fl d.fn = true) (ho : 0 ≤ d.ops) (ho1 : d.ops < 4611686018427387904) (f : Value) :
    Calls Tryz.prog 43 #[ptr p, f] w (fun e w' => e = .returned (.int .i64 8) ∧ At w' p { d with ops := d.ops + 1, fl := false, fn := 0 } ∧ Tch p.L w w') := by
  have c2 : w.cell? ⟨p.g, 2, none⟩ = some (.int .i64 d.ops) := k.row.cell 2
  have f2 : w.frozen? ⟨p.g, 2, none⟩ = false := k.row.free 2
  have k1 := Lib.hid k.count
  have ht1 := Lib.hid (tch_g w p 2 (.int .i64 (d.ops + 1)))
  have hr1 := Lib.hid k1.out.row
  clear k
  go_enter Tryz.func43, Tryz.ntmps43
  go_wp2_with (first
    | (go_at_call 71; refine (strikes_any p.g 6 d.fl d.fn _ (hr1.out.cell 6) (hr1.out.cell 7)).mono ?_; rintro e w' ⟨rfl, rfl⟩)
    | ((with_reducible refine wpList_store_at rfl 78 (.tmp 19) (.tmp 17) rfl (o := 6) rfl rfl hr1.out size74 (fuse_fit6 _ _ _ _) (fuse_one false 0) ?_)
       intro w3 h3 hg3))
  go_ret
  refine ⟨rfl, k1.out.struct hg3 h3 rfl rfl ⟨k1.out.good.pos, k1.out.good.n, k1.out.good.held, k1.out.good.cache, k1.out.good.armed, fun h => by cases h⟩, ht1.out.trans (Tch.of_grown hg3 (g_in p))⟩

set_option maxHeartbeats 1000000 in
theorem operate_ok (p : Pl) (d : Dk) (w : World) (k : At w p d) (hh : hit d.fl d.fn = false) (ho : 0 ≤ d.ops) (ho1 : d.ops < 4611686018427387904) (kf : Nat) (lb : Array Value) (eg : ∀ args w, (callFunc kf args).run Tryz.prog w = .ok (.enter kf args) w) (R : World → Prop)
    (hdo : ∀ W, At W p { d with ops := d.ops + 1, fn := burnt d.fl d.fn } → Tch p.L w W → Calls Tryz.prog kf lb W (fun e W' => e = .returned (.tuple #[]) ∧ R W')) :
    Calls Tryz.prog 43 #[ptr p, .func (.func kf) #[] lb] w (fun e w' => e = .returned (.int .i64 0) ∧ R w') := by
  have c2 : w.cell? ⟨p.g, 2, none⟩ = some (.int .i64 d.ops) := k.row.cell 2
  have f2 : w.frozen? ⟨p.g, 2, none⟩ = false := k.row.free 2
  have k1 := Lib.hid k.count
  have ht1 := Lib.hid (tch_g w p 2 (.int .i64 (d.ops + 1)))
  have hr1 := Lib.hid k1.out.row
  have hG := Lib.hid k.good
  have hdo' := Lib.hid hdo
  clear k hdo
  cases hfl : d.fl with
  | false =>
    have cD := hdo'.out _ (by
      have : burnt d.fl d.fn = d.fn := by rw [hfl]; rfl
      rw [this]
      exact k1.out) ht1.out
    rw [hfl] at hh
    go_enter Tryz.func43, Tryz.ntmps43
    go_wp2_with (first
      | (go_at_call 71; refine (strikes_any p.g 6 false d.fn _ (by rw [← hfl]; exact hr1.out.cell 6) (hr1.out.cell 7)).mono ?_; rintro e w' ⟨rfl, rfl⟩)
      | (go_at_call 72; refine (burn_dark p.g 6 _ (by rw [← hfl]; exact hr1.out.cell 6)).mono ?_; rintro e w' ⟨rfl, rfl⟩)
      | (refine cD.mono ?_; clear cD; rintro e w5 ⟨rfl, hR⟩; have hR' := Lib.hid hR; clear hR))
    go_ret
    exact ⟨rfl, hR'.out⟩
  | true =>
    have hb := hG.out.fails hfl
    have hn : 0 < d.fn := by
      rw [hfl] at hh
      have : d.fn ≠ 0 := fun e => by rw [e] at hh; cases hh
      omega
    have k2 := Lib.hid (k1.out.field (d' := { d with ops := d.ops + 1, fn := burnt d.fl d.fn }) 7 (.int .i64 (d.fn - 1)) (by simp [dkL, burnt, hfl]) rfl rfl ⟨hG.out.pos, hG.out.n, hG.out.held, hG.out.cache, hG.out.armed, fun _ => by simp only [burnt, hfl, if_true]; omega⟩)
    have cD := hdo'.out _ k2.out (ht1.out.trans (tch_g _ p 7 _))
    rw [hfl] at hh
    go_enter Tryz.func43, Tryz.ntmps43
    go_wp2_with (first
      | (go_at_call 71; refine (strikes_any p.g 6 true d.fn _ (by rw [← hfl]; exact hr1.out.cell 6) (hr1.out.cell 7)).mono ?_; rintro e w' ⟨rfl, rfl⟩)
      | (go_at_call 72; refine (burn_lit p.g 6 d.fn _ (by rw [← hfl]; exact hr1.out.cell 6) (hr1.out.cell 7) (hr1.out.free 7) hn hb.2).mono ?_; rintro e w' ⟨rfl, rfl⟩)
      | (refine cD.mono ?_; clear cD; rintro e w5 ⟨rfl, hR⟩; have hR' := Lib.hid hR; clear hR))
    go_ret
    exact ⟨rfl, hR'.out⟩

/-- what is captured by a change -/
structure ChRel (W : World) (B : Nat) (p : Pl) (dov : Value) : Prop where
  b0 : RowV 24 W B [ptr p]
  b1 : RowV 1 W (B + 1) [dov]

set_option maxHeartbeats 1000000 in
theorem change1_any (p : Pl) (d : Dk) (w : World) (k : At w p d) (B : Nat) (kf : Nat) (lb : Array Value) (hc : ChRel w B p (.func (.func kf) #[] lb)) (hh : hit d.al d.an = false) (eg : ∀ args w, (callFunc kf args).run Tryz.prog w = .ok (.enter kf args) w) (R : World → Prop) (hB1 : B + 1 ∉ p.L)
    (hdo : ∀ W, At W p { d with an := burnt d.al d.an } → Tch p.L w W → Calls Tryz.prog kf lb W (fun e W' => e = .returned (.tuple #[]) ∧ R W')) :
    Calls Tryz.prog 118 #[.pointer (some ⟨B, 0, none⟩), .pointer (some ⟨B + 1, 0, none⟩)] w (fun e w' => e = .returned (.tuple #[]) ∧ R w') := by
  have b0 : w.cell? ⟨B, 0, none⟩ = some (ptr p) := hc.b0.cell 0
  have b1 : w.cell? ⟨B + 1, 0, none⟩ = some (.func (.func kf) #[] lb) := hc.b1.cell 0
  have hr1 := Lib.hid k.row
  have hG := Lib.hid k.good
  have hdo' := Lib.hid hdo
  have hk := Lib.hid k
  clear k hdo
  cases hal : d.al with
  | false =>
    have cD := hdo'.out _ (by
      have : burnt d.al d.an = d.an := by rw [hal]; rfl
      rw [this]
      exact hk.out) (Tch.refl _ _)
    go_enter Tryz.func118, Tryz.ntmps118
    go_wp2_with (first
      | (go_at_call 72; refine (burn_dark p.g 4 _ (by rw [← hal]; exact hr1.out.cell 4)).mono ?_; rintro e w' ⟨rfl, rfl⟩)
      | (refine cD.mono ?_; clear cD; rintro e w5 ⟨rfl, hR⟩; have hR' := Lib.hid hR; clear hR))
    go_end0
    exact ⟨rfl, hR'.out⟩
  | true =>
    have hb := hG.out.armed hal
    have hn : 0 < d.an := by
      rw [hal] at hh
      have : d.an ≠ 0 := fun e => by rw [e] at hh; cases hh
      omega
    have k2 := Lib.hid (hk.out.field (d' := { d with an := burnt d.al d.an }) 5 (.int .i64 (d.an - 1)) (by simp [dkL, burnt, hal]) rfl rfl ⟨hG.out.pos, hG.out.n, hG.out.held, hG.out.cache, fun _ => by simp only [burnt, hal, if_true]; omega, hG.out.fails⟩)
    have hb1' : (w.setCell ⟨p.g, 5, none⟩ (.int .i64 (d.an - 1))).cell? ⟨B + 1, 0, none⟩ = some (.func (.func kf) #[] lb) := (hc.b1.kept (setCell_grown w p.g 5 _) (fun e => hB1 (by rw [e]; exact g_in p))).cell 0
    have cD := hdo'.out _ k2.out (tch_g _ p 5 _)
    go_enter Tryz.func118, Tryz.ntmps118
    go_wp2_with (first
      | (go_at_call 72; refine (burn_lit p.g 4 d.an _ (by rw [← hal]; exact hr1.out.cell 4) (hr1.out.cell 5) (hr1.out.free 5) hn hb.2).mono ?_; rintro e w' ⟨rfl, rfl⟩)
      | (refine cD.mono ?_; clear cD; rintro e w5 ⟨rfl, hR⟩; have hR' := Lib.hid hR; clear hR))
    go_end0
    exact ⟨rfl, hR'.out⟩

end Go.Proofs.YtjhnagipagkhiaaGreat
