/- Noughts for the first sectors, told one behind the other. -/
import Derived.Test.YtjhnagipagkhiaaGreatRIter
namespace Go.Proofs.YtjhnagipagkhiaaGreat
open Go.RowKit Go.Maps Go.Sort Go.Shelf
attribute [local go_sem] Oper.semAt_some

/-- a sector's number, and a block for it -/
def sect (b : List Int) (x : Array Value) : Array Value := x.push (agg b)
theorem bz64 (u : World) : (Instr.build 48 #[]).run Tryz.prog u = .ok (agg z64) u := by kernel_rfl

theorem wpListIn_build_zn {F : Fence} {n : Nat} {ops : Array Oper} {rest : List Oper} {o : Oper} {a : Act} {w : World} {Q : Exit → Act → World → Prop} (hgd : o.guard = none) (ho : o.op = .build 48 #[])
    (hK : wpListIn F n Tryz.prog ops Q rest (a.put o.dst (agg z64)) w) : wpListIn F n Tryz.prog ops Q (o :: rest) a w := by
  refine wpListIn_plain hgd fun K' hK' => ?_
  unfold Oper.wpIn
  refine ⟨by simp [Oper.about, ho], ?_⟩
  rw [Oper.semAt_plain F _ _ (by rw [ho]; intro c hc'; cases hc')]
  unfold execOp
  have hb := bz64 w
  simp only [ho, List.map_toArray, List.map_nil, Sem.run_bind, hb, Result.andThen_ok, Sem.run_pure, Oper.uponIn_value]
  exact hK' _ _ hK

set_option maxHeartbeats 1000000 in
theorem noughts_tells (B : Nat) (n : Nat) (hn : n < 9223372036854775808) (w : World) : Tells Tryz.prog 75 #[] #[.pointer (some ⟨B, 0, none⟩)] (fun W => W.cell? ⟨B, 0, none⟩ = some (.int .i64 n)) ((nums n).map (sect z64)) w := by
  intro l J Jx hJ hJx hR _ h0 hY
  have hb0 : Below w.heap.size w (w.alloc (.cells #[.func (.yield l) #[] #[]] 122)) := (Below.refl _ _).alloc (Nat.le_refl _) _
  have c1 : (w.alloc (.cells #[.func (.yield l) #[] #[]] 122)).cell? ⟨B, 0, none⟩ = some (.int .i64 n) := hR [] _ (hJ [] _ _ h0 hb0)
  have hY' := Lib.hid hY
  have hJ' := Lib.hid hJ
  have hJx' := Lib.hid hJx
  have h0' := Lib.hid h0
  clear hY hR hJ hJx h0
  have hfK : Fence.wide.fn 76 := trivial
  refine calls_n 9 (m := 10) ?_
  refine callsIn_of_wp_marks Tryz.func75 rfl trivial ?_ rfl
  simp only [Tryz.ntmps75, List.size_toArray, List.length_cons, List.length_nil, Nat.reduceAdd, Nat.reduceSub, Array.replicate_succ, Array.replicate_zero, List.push_toArray, List.append_toArray, List.nil_append, List.cons_append]
  gi_wp2_with (gi_at_call 76; refine (callsIn_wide.2 (firstSectors_any n _)).mono ?_; rintro e w' ⟨rfl, rfl⟩)
  have hsz : ((w.alloc (.cells #[.func (.yield l) #[] #[]] 122)).alloc (.cells #[.int .i64 n] 3)).heap.size = w.heap.size + 2 := by simp
  refine range_tells (fn := 101) (pre := #[]) (post := #[.pointer (some ⟨w.heap.size + 1, 0, none⟩)]) (R := fun W => W.cell? ⟨w.heap.size + 1, 0, none⟩ = some (.int .i64 n)) (L := nums n)
    rfl (enters_of Tryz.func101 (by kernel_rfl) rfl) (fun x hx => by obtain ⟨i, rfl, _⟩ := nums_mem hx; rfl) (fun W _ => first_tells _ n hn W)
    (fun s W => J (s.map (sect z64)) W ∧ RowV 122 W w.heap.size [.func (.yield l) #[] #[]] ∧ RowV 3 W (w.heap.size + 1) [.int .i64 n])
    (fun c W => c = .ret ∧ Jx W ∧ RowV 3 W (w.heap.size + 1) [.int .i64 n]) ?hIb ?hXb ?hR ?hRx ?hI0 ?hround ?hdone ?hleft
  case hIb =>
    rintro s W W' ⟨h1, h2, h3⟩ hb
    rw [hsz] at hb
    exact ⟨hJ'.out _ _ _ h1 (hb.mono (by omega)), h2.block (hb.block _ (by omega)), h3.block (hb.block _ (by omega))⟩
  case hXb =>
    rintro c W W' ⟨h1, h2, h3⟩ hb
    rw [hsz] at hb
    exact ⟨h1, hJx'.out _ _ h2 (hb.mono (by omega)), h3.block (hb.block _ (by omega))⟩
  case hR => exact fun s W h => h.2.2.cell 0
  case hRx => exact fun c W h => h.2.2.cell 0
  case hI0 =>
    refine ⟨hJ'.out [] _ _ h0'.out (((Below.refl _ _).alloc (Nat.le_refl _) _).alloc (by simp) _), (RowV.made w _).block (heap_alloc_old _ _ (by simp)), ?_⟩
    have h := RowV.made (T := 3) (w.alloc (.cells #[.func (.yield l) #[] #[]] 122)) [.int .i64 n]
    rw [World.size_alloc] at h
    exact h
  case hround =>
    rintro l2 s x t W hsp hW ⟨hJs, hb1, hb2⟩
    rw [hsz] at hW
    obtain ⟨i, rfl, hi⟩ := nums_mem (n := n) (x := x) (by rw [hsp]; simp)
    have hjs := Lib.hid hJs
    have r1 := Lib.hid hb1
    have r2 := Lib.hid hb2
    have hspl := Lib.hid hsp
    clear hsp hJs hb1 hb2
    gi_wp2
    refine ⟨fun _ _ _ => rfl, Nat.le_refl _, fun W2 hz hblk hos htp hout => ?_⟩
    rw [hsz] at hblk
    have hbW : Below w.heap.size W W2 := ⟨hos, htp, hout, by omega, fun k hk => hblk k (by omega)⟩
    have hJ2 := hJ'.out _ W W2 hjs.out hbW
    have q1 := Lib.hid (r1.out.block (hblk _ (by omega)))
    have q2 := Lib.hid (r2.out.block (hblk _ (by omega)))
    have cy : W2.cell? ⟨w.heap.size, 0, none⟩ = some (.func (.yield l) #[] #[]) := q1.out.cell 0
    obtain ⟨fn, tmps, asg, bdy, hy, hRd⟩ := yield_n 7 (hY'.out (s.map (sect z64)) #[.int .i64 i, agg z64] (t.map (sect z64)) W2 (by rw [hspl.out, List.map_append, List.map_cons]; rfl) (by omega) hJ2)
    have hRd2 : RoundIn (Fence.wide.inRound l2) 7 Tryz.prog l fn tmps asg bdy W2 _ := hRd
    clear hJ2 hRd hos htp hout
    gi_wp2_with (refine wpListIn_build_zn rfl rfl ?_)
    refine hRd2.mono ?_
    rintro e W3 ⟨hs3, hz3, (⟨rfl, hJ3⟩ | ⟨rfl, hx3⟩)⟩
    · have hj3 := Lib.hid hJ3
      have hs3' := Lib.hid hs3
      clear hJ3 hs3
      gi_wp2
      refine ⟨⟨?_, q1.out.block (hs3'.out _ (by omega) (by omega)), q2.out.block (hs3'.out _ (by omega) (by omega))⟩, fun k h1 h2 => hs3'.out k (by omega) h2, hz3⟩
      rw [List.map_append, List.map_cons, List.map_nil]
      exact hj3.out
    · have hj3 := Lib.hid hx3
      have hs3' := Lib.hid hs3
      clear hx3 hs3
      gi_wp2
      exact ⟨⟨rfl, hj3.out, q2.out.block (hs3'.out _ (by omega) (by omega))⟩, fun k h1 h2 => hs3'.out k (by omega) h2, hz3⟩
  case hdone =>
    rintro D W hD ⟨hJL, _⟩ hKD hDl
    have hjl := Lib.hid hJL
    clear hJL
    gi_wp2
    refine ⟨by simp, .inl ⟨_, _, rfl, run_takeDeferred hKD, ?_⟩⟩
    refine ⟨_, results_none rfl _ _ _, ⟨_, rfl⟩, .inl ?_⟩
    rw [hsz] at hD
    exact hJ'.out _ _ _ hjl.out ⟨rfl, rfl, rfl, by simp, fun k hk => World.putObj_heap_other (by omega)⟩
  case hleft =>
    rintro D c W hD ⟨rfl, hx, _⟩ hKD hDl
    have hjl := Lib.hid hx
    clear hx
    gi_wp2
    refine ⟨by simp, .inl ⟨_, _, rfl, run_takeDeferred hKD, ?_⟩⟩
    refine ⟨_, results_none rfl _ _ _, ⟨_, rfl⟩, .inr ?_⟩
    rw [hsz] at hD
    exact hJx'.out _ _ hjl.out ⟨rfl, rfl, rfl, by simp, fun k hk => World.putObj_heap_other (by omega)⟩

end Go.Proofs.YtjhnagipagkhiaaGreat
