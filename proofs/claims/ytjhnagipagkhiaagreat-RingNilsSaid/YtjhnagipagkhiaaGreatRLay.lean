/- lay: the sectors of each group are written, with a sync behind each group; the first error ends it. -/
import Derived.Test.YtjhnagipagkhiaaGreatRLayP
namespace Go.Proofs.YtjhnagipagkhiaaGreat
open Go.RowKit Go.Maps Go.Sort Go.Shelf
attribute [local go_sem] Oper.semAt_some

theorem At.other1 {w w' : World} {p : Pl} {d : Dk} {j : Nat} (k : At w p d) (hg : w.grownBy w' (some j)) (hj : j ∉ p.L) : At w' p d := by
  have h1 : p.g ≠ j := fun e => hj (by rw [← e]; exact g_in p)
  have h2 : p.h ≠ j := fun e => hj (by rw [← e]; exact h_in p)
  have h3 : p.m ≠ j := fun e => hj (by rw [← e]; exact m_in p)
  exact k.block (hg.block _ k.glt (by simpa using h1)) (hg.block _ k.hlt (by simpa using h2)) (hg.block _ k.mlt (by simpa using h3))

/-- a group: a function that tells its sectors, and these -/
structure Grp where
  fn : FuncId
  pre : Array Value
  post : Array Value
  L : List (Int × List Int)
def Grp.val (g : Grp) : Value := .func (.func g.fn) g.pre g.post
def tl (x : Int × List Int) : Array Value := #[.int .i64 x.1, agg x.2]
structure GrpOk (w : World) (p : Pl) (g : Grp) : Prop where
  enters : ∀ args u, (callFunc g.fn args).run Tryz.prog u = .ok (.enter g.fn args) u
  tells : ∃ R : World → Prop, (∀ W, Tch p.L w W → R W) ∧ ∀ W, Tells Tryz.prog g.fn g.pre g.post R (g.L.map tl) W
  len : ∀ x ∈ g.L, x.2.length = 64
  few : g.L.length ≤ 2000

structure LaySt (w W : World) (p : Pl) (d : Dk) (y : Int) (ms : List Deferred) : Prop where
  disk : At W p d
  box : RowV 24 W w.heap.size [ptr p]
  why : RowV 25 W (w.heap.size + 1) [.int .i64 y]
  tch : Tch p.L w W
  marks : Marks (w.heap.size + 2) W.heap.size ms W
theorem LaySt.below {w W W' : World} {p : Pl} {d : Dk} {y : Int} {ms : List Deferred} {B : Nat} (h : LaySt w W p d y ms) (hp : ∀ x ∈ p.L, x < w.heap.size) (hB : w.heap.size + 2 ≤ B) (hm : Marks (w.heap.size + 2) B ms W) (hBW : B ≤ W'.heap.size) (hb : Below B W W') : LaySt w W' p d y ms := by
  refine ⟨h.disk.block (hb.block _ ?_) (hb.block _ ?_) (hb.block _ ?_), h.box.block (hb.block _ (by omega)), h.why.block (hb.block _ (by omega)), ⟨hb.os.trans h.tch.os, hb.tape.trans h.tch.tape, hb.output.trans h.tch.output, Nat.le_trans h.tch.size hb.size, fun k hk hn => (hb.block k (by omega)).trans (h.tch.block k hk hn)⟩, hm.keep (fun k h1 h2 => hb.block k h2) hBW⟩
  · have := hp _ (g_in p); omega
  · have := hp _ (h_in p); omega
  · have := hp _ (m_in p); omega
theorem LaySt.grow {w W W' : World} {p : Pl} {d : Dk} {y : Int} {ms : List Deferred} (h : LaySt w W p d y ms) (hb : Below W.heap.size W W') : LaySt w W' p d y ms :=
  ⟨h.disk.below hb, h.box.below hb, h.why.below hb, h.tch.trans (Tch.of_below hb _), h.marks.keep (fun k _ h2 => hb.block k h2) hb.size⟩
theorem LaySt.size {w W : World} {p : Pl} {d : Dk} {y : Int} {ms : List Deferred} (h : LaySt w W p d y ms) : w.heap.size + 2 ≤ W.heap.size := by have := h.why.lt; omega
theorem LaySt.fin {w W W' : World} {p : Pl} {d : Dk} {y : Int} {ms : List Deferred} (h : LaySt w W p d y ms) (hp : ∀ x ∈ p.L, x < w.heap.size) (hb : Below (w.heap.size + 2) W W') : At W' p d ∧ Tch p.L w W' := by
  have h0 : LaySt w W p d y [] := ⟨h.disk, h.box, h.why, h.tch, trivial⟩
  have h1 := h0.below hp (Nat.le_refl _) trivial (Nat.le_trans h.size hb.size) hb
  exact ⟨h1.disk, h1.tch⟩
/-- the disk has turned, and the error is stored -/
theorem LaySt.did {w W W' : World} {p : Pl} {d d' : Dk} {y y' : Int} {ms : List Deferred} (h : LaySt w W p d y ms) (hp : ∀ x ∈ p.L, x < w.heap.size) (hA : At W' p d') (hT : Tch p.L W W') : LaySt w (W'.setCell ⟨w.heap.size + 1, 0, none⟩ (.int .i64 y')) p d' y' ms := by
  have hn : ∀ j, w.heap.size ≤ j → j ∉ p.L := fun j hj hin => by have := hp j hin; omega
  have hg := setCell_grown W' (w.heap.size + 1) 0 (.int .i64 y')
  have hs := hT.size
  have hz := h.size
  exact ⟨hA.other1 hg (hn _ (by omega)), (h.box.tch hT (hn _ (Nat.le_refl _))).kept hg (by omega), (h.why.tch hT (hn _ (by omega))).set 0 _, (h.tch.trans hT).setNew (p := ⟨w.heap.size + 1, 0, none⟩) (by simp) _, h.marks.keep (fun k h1 h2 => (hg.block k (by omega) (fun e => by cases e; omega)).trans (hT.block k h2 (hn _ (by omega)))) (by simpa [World.setCell] using hs)⟩

def LayI (w : World) (p : Pl) (d : Dk) (gs : List Grp) (q : Option Addr) (c : Nat) (a' : Act) (W : World) : Prop :=
  ∃ (i : Nat) (d' : Dk) (ms : List Deferred) (u7 u13 u14 u15 u16 u25 u26 u27 u28 u29 : Value), i ≤ gs.length ∧
    a' = { tmps := #[ptr p, .slice q gs.length c, .pointer (some ⟨w.heap.size, 0, none⟩), undef, .int .i64 0, .pointer (some ⟨w.heap.size + 1, 0, none⟩), undef, u7, undef, undef, .slice q gs.length c, .int .i64 gs.length, .int .i64 i, u13, u14, u15, u16, undef, undef, undef, undef, undef, undef, undef, undef, u25, u26, u27, u28, u29, undef], defers := ms } ∧
    Hid (LaySt w W p d' 0 ms ∧ layAll d ((gs.take i).map (·.L)) = (0, d') ∧ 0 ≤ d'.ops ∧ d'.ops ≤ d.ops + 3000 * i)

theorem layAll_snoc {d d2 : Dk} : ∀ {l : List (List (Int × List Int))} {g : List (Int × List Int)} {r : List (List (Int × List Int))}, layAll d l = (0, d2) → layAll d (l ++ g :: r) = layAll d2 (g :: r)
  | [], g, r, h => by
    have : d = d2 := by unfold layAll at h; exact (Prod.mk.inj h).2
    subst this
    rfl
  | k :: l, g, r, h => by
    unfold layAll at h
    rw [List.cons_append]
    conv => lhs; unfold layAll
    by_cases h0 : (wrAll d k).1 = 0
    · rw [if_pos h0] at h ⊢
      by_cases h1 : (syRes (wrAll d k).2).1 = 0
      · rw [if_pos h1] at h ⊢
        exact layAll_snoc h
      · rw [if_neg h1] at h
        rw [h] at h1
        exact absurd rfl h1
    · rw [if_neg h0] at h
      rw [h] at h0
      exact absurd rfl h0

set_option maxRecDepth 100000 in
set_option maxHeartbeats 2000000 in
theorem lay_any (p : Pl) (d : Dk) (w : World) (k : At w p d) (gs : List Grp) (q : Option Addr) (c : Nat) (hq : ∀ i g, gs[i]? = some g → ∃ a, q = some a ∧ a.block ∉ p.L ∧ w.cell? (a.add i) = some g.val) (hgs : ∀ g ∈ gs, GrpOk w p g) (hlen : gs.length ≤ 10) (h0 : 0 ≤ d.ops) (h1 : d.ops < 1152921504606846976) :
    Calls Tryz.prog 47 #[ptr p, .slice q gs.length c] w (fun e w' => e = .returned (.int .i64 (layAll d (gs.map (·.L))).1) ∧ At w' p (layAll d (gs.map (·.L))).2 ∧ Tch p.L w w') := by
  have hp : Hid (∀ x ∈ p.L, x < w.heap.size) := fun x hx => by
    simp only [Pl.L, List.mem_cons, List.not_mem_nil, or_false] at hx
    rcases hx with rfl | rfl | rfl
    · exact k.glt
    · exact k.hlt
    · exact k.mlt
  have hq' := Lib.hid hq
  have hgs' := Lib.hid hgs
  have st0 : Hid (LaySt w ((w.alloc (.cells #[ptr p] 24)).alloc (.cells #[.int .i64 0] 25)) p d 0 []) := by
    have hb : Below w.heap.size w ((w.alloc (.cells #[ptr p] 24)).alloc (.cells #[.int .i64 0] 25)) := ((Below.refl _ _).alloc (Nat.le_refl _) _).alloc (by simp) _
    have h := RowV.made (T := 25) (w.alloc (.cells #[ptr p] 24)) [.int .i64 0]
    rw [World.size_alloc] at h
    exact ⟨k.below hb, (RowV.made w _).block (heap_alloc_old _ _ (by simp)), h, Tch.of_below hb _, trivial⟩
  clear k hq hgs
  refine (callsIn_wide (n := 10)).1 ?_
  refine callsIn_of_wp_marks Tryz.func47 rfl trivial ?_ rfl
  simp only [Tryz.ntmps47, List.size_toArray, List.length_cons, List.length_nil, Nat.reduceAdd, Nat.reduceSub, Array.replicate_succ, Array.replicate_zero, List.push_toArray, List.append_toArray, List.nil_append, List.cons_append]
  gi_wp2
  refine wpIn_wide.2 (wp_scope_straight ((wpIn_wide (n := 10)).1 ?_))
  gi_wp2
  refine wpIn_label ?_
  gi_wp2
  refine wpIn_loop (LayI w p d gs q c) (fun a' _ => gs.length - (RowKit.intOf (a'.tmps.getD 12 undef)).toNat) ?start ?round
  case start => exact ⟨0, d, [], undef, undef, undef, undef, undef, undef, undef, undef, undef, undef, by omega, rfl, st0.out, rfl, h0, by omega⟩
  case round =>
    rintro a0 W ⟨i, d', ms, u7, u13, u14, u15, u16, u25, u26, u27, u28, u29, hi, rfl, hst⟩
    by_cases hlt : i < gs.length
    · obtain ⟨g, hg⟩ : ∃ g, gs[i]? = some g := ⟨_, List.getElem?_eq_getElem hlt⟩
      obtain ⟨a, rfl, hap, hcell⟩ := hq'.out i g hg
      have hok := hgs'.out g (List.mem_of_getElem? hg)
      have hab := cell_lt hcell
      have cg : W.cell? (a.add i) = some g.val := by
        rw [World.cell?_of_block (w := w) (hst.out.1.tch.block _ hab (by rw [add_block]; exact hap))]
        exact hcell
      obtain ⟨R, hR, hT⟩ := hok.tells
      have hW0 := Lib.hid hst.out.1.size
      have hfS : Fence.wide.fn 74 := trivial
      have hg' := Lib.hid hg
      gi_wp2
      refine range_tells (fn := g.fn) (pre := g.pre) (post := g.post) (R := R) (L := g.L.map tl) rfl hok.enters (fun x hx => by obtain ⟨y, _, rfl⟩ := List.mem_map.1 hx; rfl) (fun W' _ => hT W')
        (fun s W' => W.heap.size ≤ W'.heap.size ∧ ∃ d2, LaySt w W' p d2 0 ms ∧ Marks (w.heap.size + 2) W.heap.size ms W' ∧ wrAll d' (g.L.take s.length) = (0, d2))
        (fun c W' => c = .exit 0 ∧ W.heap.size ≤ W'.heap.size ∧ ∃ d2 y, LaySt w W' p d2 y ms ∧ Marks (w.heap.size + 2) W.heap.size ms W' ∧ y ≠ 0 ∧ wrAll d' g.L = (y, d2)) ?hIb ?hXb ?hR ?hRx ?hI0 ?hround ?hdone ?hleft
      case hIb =>
        rintro s A B ⟨hz, d2, h1, h2, h3⟩ hb
        exact ⟨Nat.le_trans hz hb.size, d2, h1.below hp.out hW0.out h2 (Nat.le_trans hz hb.size) hb, h2.keep (fun k _ b => hb.block k b) (Nat.le_refl _), h3⟩
      case hXb =>
        rintro c A B ⟨hc, hz, d2, y, h1, h2, h3⟩ hb
        exact ⟨hc, Nat.le_trans hz hb.size, d2, y, h1.below hp.out hW0.out h2 (Nat.le_trans hz hb.size) hb, h2.keep (fun k _ b => hb.block k b) (Nat.le_refl _), h3⟩
      case hR =>
        rintro s A ⟨_, d2, h1, _⟩
        exact hR A h1.tch
      case hRx =>
        rintro c A ⟨_, _, d2, y, h1, _⟩
        exact hR A h1.tch
      case hI0 => exact ⟨Nat.le_refl _, d', hst.out.1, hst.out.1.marks, rfl⟩
      case hround =>
        rintro l s x t A hsp hA ⟨hz, d2, h1, h2, h3⟩
        have hx : (g.L.map tl)[s.length]? = some x := by rw [hsp]; simp
        rw [List.getElem?_map] at hx
        obtain ⟨⟨i2, b⟩, hib, rfl⟩ := Option.map_eq_some_iff.1 hx
        have b64 : b.length = 64 := hok.len _ (List.mem_of_getElem? hib)
        have hfew := hok.few
        have hops : d'.ops ≤ d2.ops ∧ d2.ops ≤ d'.ops + (g.L.take s.length).length := by have h := wrAll_ops (g.L.take s.length) d'; rw [h3] at h; exact h
        have hl2 : (g.L.take s.length).length ≤ 2000 := by rw [List.length_take]; omega
        have hd0 : 0 ≤ d2.ops := by have := hst.out.2.2.1; have := hops.1; omega
        have hd1 : d2.ops < 4611686018427387904 := by have h4 := hst.out.2.2.2; have h5 := hops.2; omega
        have hstA := Lib.hid h1
        have hmA := Lib.hid h2
        have h3' := Lib.hid h3
        have hib' := Lib.hid hib
        have hspl : s.length + t.length + 1 = g.L.length := by have h := congrArg List.length hsp; simp at h; omega
        have rz : Hid (RowV 48 (A.alloc (.cells (bl z64).toArray 48)) A.heap.size (bl z64)) := RowV.made A _
        clear hsp h1 h2 h3 hx hib hops
        unfold tl
        gi_wp2_with (first
          | (with_reducible refine wpListIn_alloc_z rfl 48 rfl alloc37z ?_)
          | ((with_reducible refine wpListIn_store_at rfl 48 (.tmp 9) (.tmp 18) rfl (o := 0) rfl rfl rz.out (bl_size b64) (bl_fits b64 z64_len) (bl_one b) ?_)
             intro A1 hr1 hg1
             rw [bl_splice b64 z64_len] at hr1
             have r1 := Lib.hid hr1
             have g1 := Lib.hid hg1
             clear hr1 hg1))
        have hb1 : Below A.heap.size A A1 := ((Below.refl _ _).alloc (Nat.le_refl _) _).grown g1.out (by rw [World.size_alloc]; omega) (fun k e => by cases e; exact Nat.le_refl _)
        refine ⟨fun k _ hk => hb1.block k hk, hb1.size, fun W2 hz2 hblk hos htp hout => ?_⟩
        have hb2 : Below W.heap.size A1 W2 := ⟨hos, htp, hout, by omega, fun k hk => hblk k (by omega)⟩
        have hm1 : Marks (w.heap.size + 2) W.heap.size ms A1 := hmA.out.keep (fun k _ hk => hb1.block k (by omega)) (Nat.le_refl _)
        have st2 := Lib.hid ((hstA.out.grow hb1).below hp.out hW0.out hm1 (by have := hb1.size; omega) hb2)
        have hm2 : Hid (Marks (w.heap.size + 2) W.heap.size ms W2) := hm1.keep (fun k _ hk => hblk k (by omega)) (Nat.le_refl _)
        have r9 := Lib.hid (r1.out.block (hblk A.heap.size (by omega)))
        have cb : W2.cell? ⟨w.heap.size, 0, none⟩ = some (ptr p) := st2.out.box.cell 0
        have zs := Lib.hid (Nat.le_trans hz (Nat.le_trans hb1.size (Nat.le_of_eq hz2.symm)))
        obtain ⟨y, d3, hyd⟩ : ∃ y d3, wrRes d2 i2 b = (y, d3) := ⟨_, _, rfl⟩
        have cK := CallsIn.inRound l ((callsIn_wide (n := 7)).2 (write_any p d2 W2 st2.out.disk hd0 hd1 i2 b b64))
        rw [hyd] at cK
        have hyd' := Lib.hid hyd
        clear hos htp hout hyd hm1
        by_cases hy0 : y = 0
        · subst hy0
          gi_wp2_with (with_reducible refine wpListIn_load_at rfl 48 (.tmp 9) rfl Tryz.underlying48 rfl (vs := bl b) (bl_size b64) rfl (r9.out.part (o := 0) (pre := []) (rest := []) (bl_part b) rfl) ?_)
          refine ⟨trivial, cK.mono ?_⟩
          rintro e A3 ⟨rfl, hA3, hT3⟩
          have st3 := Lib.hid (st2.out.did (y' := 0) hp.out hA3 hT3)
          have hT3' := Lib.hid hT3
          have wy := ((st2.out.why.tch hT3 (fun hin => by have := hp.out _ hin; omega)))
          have cy : A3.cell? ⟨w.heap.size + 1, 0, none⟩ = some (.int .i64 0) := wy.cell 0
          have fy : A3.frozen? ⟨w.heap.size + 1, 0, none⟩ = false := wy.free 0
          have sm : Hid (Same W.heap.size W2.heap.size W2 (A3.setCell ⟨w.heap.size + 1, 0, none⟩ (.int .i64 0)) ∧ W2.heap.size ≤ (A3.setCell ⟨w.heap.size + 1, 0, none⟩ (.int .i64 0)).heap.size) := by
            have hz := hW0.out
            refine ⟨fun k h1 h2 => ?_, by simpa [World.setCell] using hT3.size⟩
            rw [Below.heap_setCell _ _ _ _ (by show k ≠ w.heap.size + 1; omega)]
            exact hT3.block k h2 (fun hin => by have := hp.out _ hin; omega)
          have mk3 : Hid (Marks (w.heap.size + 2) W.heap.size ms (A3.setCell ⟨w.heap.size + 1, 0, none⟩ (.int .i64 0))) := hm2.out.keep (fun k h1 h2 => by
            rw [Below.heap_setCell _ _ _ _ (by show k ≠ w.heap.size + 1; omega)]
            exact hT3.block k (by have := zs.out; omega) (fun hin => by have := hp.out _ hin; omega)) (Nat.le_refl _)
          have htk : Hid (g.L.take (s.length + 1) = g.L.take s.length ++ [(i2, b)]) := by
            show _ = _
            rw [List.take_add_one, hib'.out]; rfl
          clear hA3 hT3 wy
          gi_wp2
          refine ⟨⟨Nat.le_trans zs.out sm.out.2, d3, st3.out, mk3.out, ?_⟩, sm.out.1, sm.out.2⟩
          rw [List.length_append, List.length_singleton, htk.out, wrAll_snoc h3'.out, hyd'.out, if_pos rfl]
          rfl
        · have hyb : (y == 0) = false := by simp [hy0]
          have hyc : (y != 0) = true := by simp [hy0]
          gi_wp2_with (with_reducible refine wpListIn_load_at rfl 48 (.tmp 9) rfl Tryz.underlying48 rfl (vs := bl b) (bl_size b64) rfl (r9.out.part (o := 0) (pre := []) (rest := []) (bl_part b) rfl) ?_)
          refine ⟨trivial, cK.mono ?_⟩
          rintro e A3 ⟨rfl, hA3, hT3⟩
          have st3 := Lib.hid (st2.out.did (y' := y) hp.out hA3 hT3)
          have hT3' := Lib.hid hT3
          have wy := ((st2.out.why.tch hT3 (fun hin => by have := hp.out _ hin; omega)))
          have cy : A3.cell? ⟨w.heap.size + 1, 0, none⟩ = some (.int .i64 0) := wy.cell 0
          have fy : A3.frozen? ⟨w.heap.size + 1, 0, none⟩ = false := wy.free 0
          have sm : Hid (Same W.heap.size W2.heap.size W2 (A3.setCell ⟨w.heap.size + 1, 0, none⟩ (.int .i64 y)) ∧ W2.heap.size ≤ (A3.setCell ⟨w.heap.size + 1, 0, none⟩ (.int .i64 y)).heap.size) := by
            have hz := hW0.out
            refine ⟨fun k h1 h2 => ?_, by simpa [World.setCell] using hT3.size⟩
            rw [Below.heap_setCell _ _ _ _ (by show k ≠ w.heap.size + 1; omega)]
            exact hT3.block k h2 (fun hin => by have := hp.out _ hin; omega)
          have mk3 : Hid (Marks (w.heap.size + 2) W.heap.size ms (A3.setCell ⟨w.heap.size + 1, 0, none⟩ (.int .i64 y))) := hm2.out.keep (fun k h1 h2 => by
            rw [Below.heap_setCell _ _ _ _ (by show k ≠ w.heap.size + 1; omega)]
            exact hT3.block k (by have := zs.out; omega) (fun hin => by have := hp.out _ hin; omega)) (Nat.le_refl _)
          have htk : Hid (g.L.take (s.length + 1) = g.L.take s.length ++ [(i2, b)]) := by
            show _ = _
            rw [List.take_add_one, hib'.out]; rfl
          clear hA3 hT3 wy
          gi_wp2
          refine ⟨⟨rfl, Nat.le_trans zs.out sm.out.2, d3, y, st3.out, mk3.out, hy0, ?_⟩, sm.out.1, sm.out.2⟩
          have hd : g.L = g.L.take s.length ++ (i2, b) :: g.L.drop (s.length + 1) := by
            have hlt : s.length < g.L.length := by omega
            have he : g.L[s.length] = (i2, b) := by have h := hib'.out; rw [List.getElem?_eq_getElem hlt] at h; exact Option.some.inj h
            rw [← he, ← List.drop_eq_getElem_cons hlt, List.take_append_drop]
          rw [hd, wrAll_snoc h3'.out, hyd'.out, if_neg hy0]
      case hdone =>
        rintro D A hD ⟨hz, d2, h1, h2, h3⟩ hKD hDl
        rw [List.length_map, List.take_of_length_le (Nat.le_refl _)] at h3
        have hfew := hok.few
        have hops : d'.ops ≤ d2.ops ∧ d2.ops ≤ d'.ops + g.L.length := by have h := wrAll_ops g.L d'; rw [h3] at h; exact h
        have hd0 : 0 ≤ d2.ops := by have := hst.out.2.2.1; have := hops.1; omega
        have hd2 : d2.ops ≤ d'.ops + 2000 := by omega
        have hd1 : d2.ops < 4611686018427387904 := by have h4 := hst.out.2.2.2; omega
        have cb : A.cell? ⟨w.heap.size, 0, none⟩ = some (ptr p) := h1.box.cell 0
        obtain ⟨y, d3, hyd⟩ : ∃ y d3, syRes d2 = (y, d3) := ⟨_, _, rfl⟩
        have cK := (callsIn_wide (n := 9)).2 (sync_any p d2 A h1.disk hd0 hd1)
        rw [hyd] at cK
        have ho3 : d3.ops = d2.ops ∨ d3.ops = d2.ops + 1 := by have h := ops_sy d2; rw [hyd] at h; exact h
        have hyd' := Lib.hid hyd
        have hgL := layAll_snoc (r := (gs.drop (i + 1)).map (·.L)) (g := g.L) hst.out.2.1
        have hgs2 : gs.map (·.L) = (gs.take i).map (·.L) ++ g.L :: (gs.drop (i + 1)).map (·.L) := by
          have he : gs[i] = g := by have h := hg'.out; rw [List.getElem?_eq_getElem hlt] at h; exact Option.some.inj h
          rw [← List.map_cons, ← List.map_append, ← he, ← List.drop_eq_getElem_cons hlt, List.take_append_drop]
        have hgt : (gs.take (i + 1)).map (·.L) = (gs.take i).map (·.L) ++ [g.L] := by
          rw [List.take_add_one, hg'.out, List.map_append]; rfl
        have hg2' := Lib.hid hgs2
        have hgt' := Lib.hid hgt
        have hgL' := Lib.hid hgL
        have st1 := Lib.hid h1
        have mk1 := Lib.hid h2
        have h3' := Lib.hid h3
        clear h1 h2 h3 hyd hgL hgs2 hgt hops
        by_cases hy0 : y = 0
        · subst hy0
          gi_wp2_with (
            gi_at_call 74
            refine cK.mono ?_
            rintro e A3 ⟨rfl, hA3, hT3⟩
            have st3 := Lib.hid (st1.out.did (y' := 0) hp.out hA3 hT3)
            have wy := ((st1.out.why.tch hT3 (fun hin => by have := hp.out _ hin; omega)))
            have cy : A3.cell? ⟨w.heap.size + 1, 0, none⟩ = some (.int .i64 0) := wy.cell 0
            have fy : A3.frozen? ⟨w.heap.size + 1, 0, none⟩ = false := wy.free 0
            have hT3' := Lib.hid hT3
            clear hA3 hT3 wy)
          have hz0 := hW0.out
          have far : ∀ k, w.heap.size + 2 ≤ k → k < A.heap.size → (A3.setCell ⟨w.heap.size + 1, 0, none⟩ (.int .i64 0)).heap[k]? = A.heap[k]? := fun k h1 h2 => by
            rw [Below.heap_setCell _ _ _ _ (by show k ≠ w.heap.size + 1; omega)]
            exact hT3'.out.block k h2 (fun hin => by have := hp.out _ hin; omega)
          have hs3 : A.heap.size ≤ (A3.setCell ⟨w.heap.size + 1, 0, none⟩ (.int .i64 0)).heap.size := by simpa [World.setCell] using hT3'.out.size
          refine ⟨⟨i + 1, d3, { target := .collected D, args := #[] } :: ms, _, _, _, _, _, _, _, _, _, _, by omega, by go_num, ⟨st3.out.disk, st3.out.box, st3.out.why, st3.out.tch, D, rfl, by omega, by omega, (far D (by omega) hDl).trans hKD, mk1.out.keep (fun k a b => far k a (by omega)) hD⟩, ?_, ?_, ?_⟩, ?_⟩
          · rw [hgt'.out, layAll_snoc hst.out.2.1]
            unfold layAll
            rw [h3'.out, if_pos rfl, hyd'.out, if_pos rfl]
            rfl
          · omega
          · have h4 := hst.out.2.2.2; omega
          · simp [RowKit.intOf]; omega
        · have hyb : (y == 0) = false := by simp [hy0]
          have hyc : (y != 0) = true := by simp [hy0]
          gi_wp2_with (
            gi_at_call 74
            refine cK.mono ?_
            rintro e A3 ⟨rfl, hA3, hT3⟩
            have st3 := Lib.hid (st1.out.did (y' := y) hp.out hA3 hT3)
            have wy := ((st1.out.why.tch hT3 (fun hin => by have := hp.out _ hin; omega)))
            have cy : A3.cell? ⟨w.heap.size + 1, 0, none⟩ = some (.int .i64 0) := wy.cell 0
            have fy : A3.frozen? ⟨w.heap.size + 1, 0, none⟩ = false := wy.free 0
            have hT3' := Lib.hid hT3
            clear hA3 hT3 wy)
          have hz0 := hW0.out
          have far : ∀ k, w.heap.size + 2 ≤ k → k < A.heap.size → (A3.setCell ⟨w.heap.size + 1, 0, none⟩ (.int .i64 y)).heap[k]? = A.heap[k]? := fun k h1 h2 => by
            rw [Below.heap_setCell _ _ _ _ (by show k ≠ w.heap.size + 1; omega)]
            exact hT3'.out.block k h2 (fun hin => by have := hp.out _ hin; omega)
          have hs3 : A.heap.size ≤ (A3.setCell ⟨w.heap.size + 1, 0, none⟩ (.int .i64 y)).heap.size := by simpa [World.setCell] using hT3'.out.size
          rw [Exit.noGoto_ret]
          have mk : Marks (w.heap.size + 2) (A3.setCell ⟨w.heap.size + 1, 0, none⟩ (.int .i64 y)).heap.size ({ target := .collected D, args := #[] } :: ms) (A3.setCell ⟨w.heap.size + 1, 0, none⟩ (.int .i64 y)) := ⟨D, rfl, by omega, by omega, (far D (by omega) hDl).trans hKD, mk1.out.keep (fun k a b => far k a (by omega)) hD⟩
          refine leaves_marks mk (fun W' hb => ?_)
          have hf := st3.out.fin hp.out hb
          have hres : layAll d (gs.map (·.L)) = (y, d3) := by
            rw [hg2'.out, hgL'.out]
            unfold layAll
            rw [h3'.out, if_pos rfl, hyd'.out, if_neg hy0]
          rw [hres]
          exact ⟨_, results_tmp rfl _ _ _, rfl, hf⟩
      case hleft =>
        rintro D c A hD ⟨rfl, hz, d2, y, h1, h2, hy, h3⟩ hKD hDl
        have hgL := layAll_snoc (r := (gs.drop (i + 1)).map (·.L)) (g := g.L) hst.out.2.1
        have hgs2 : gs.map (·.L) = (gs.take i).map (·.L) ++ g.L :: (gs.drop (i + 1)).map (·.L) := by
          have he : gs[i] = g := by have h := hg'.out; rw [List.getElem?_eq_getElem hlt] at h; exact Option.some.inj h
          rw [← List.map_cons, ← List.map_append, ← he, ← List.drop_eq_getElem_cons hlt, List.take_append_drop]
        have hres : layAll d (gs.map (·.L)) = (y, d2) := by
          rw [hgs2, hgL]
          unfold layAll
          rw [h3, if_neg hy]
        have hres' := Lib.hid hres
        have st1 := Lib.hid h1
        have mk1 := Lib.hid h2
        have cw : A.cell? ⟨w.heap.size + 1, 0, none⟩ = some (.int .i64 y) := h1.why.cell 0
        clear h1 h2 h3 hgL hgs2 hres
        gi_wp2
        rw [Exit.noGoto_ret]
        have hz0 := hW0.out
        have mk : Marks (w.heap.size + 2) A.heap.size ({ target := .collected D, args := #[] } :: ms) A := ⟨D, rfl, by omega, by omega, hKD, mk1.out.keep (fun k a b => rfl) hD⟩
        refine leaves_marks mk (fun W' hb => ?_)
        have hf := st1.out.fin hp.out hb
        rw [hres'.out]
        exact ⟨_, results_tmp rfl _ _ _, rfl, hf⟩
    · obtain rfl : gs.length = i := by omega
      have cw : W.cell? ⟨w.heap.size + 1, 0, none⟩ = some (.int .i64 0) := hst.out.1.why.cell 0
      gi_wp2
      rw [Exit.noGoto_ret]
      refine leaves_marks hst.out.1.marks (fun W' hb => ?_)
      have hf := hst.out.1.fin hp.out hb
      have hr := hst.out.2.1
      rw [List.take_of_length_le (Nat.le_refl _)] at hr
      rw [hr]
      exact ⟨_, results_tmp rfl _ _ _, rfl, hf⟩

end Go.Proofs.YtjhnagipagkhiaaGreat
