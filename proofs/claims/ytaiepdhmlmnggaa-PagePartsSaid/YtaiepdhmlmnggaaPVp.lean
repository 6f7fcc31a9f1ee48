/- PageParts: for every two contents and key the law returns true, and its arguments read as they did. No condition. -/
import Derived.Test.YtaiepdhmlmnggaaPVt
import Derived.Deep.DeepCutAuto
import Derived.Deep.CutBlock
namespace Go.Proofs.Ytaiepdhmlmnggaa
open Go.ChangeShapes Go.WideShapes Go.ChangeAt Go.RowKit Go.Deep Go.Joins

section
set_option maxRecDepth 100000
variable {H : Type} {enc : TypeId × Value → H} {W : World}
theorem open_key {r : Reach} {b0 : Nat} {v : Value} {d : DataW H} {p : List MemPlace} (hv : Value.okWide Try.prog W r b0 28 v) (h : DataW.Trod enc Try.prog W 0 (fun _ => true) true 28 v d p) : ∃ k : KeyD, v = .agg #[.int .i64 k.t, .int .u16 k.id] ∧ KeyOk k := by
  obtain ⟨cs, rfl, hsz⟩ := okWide_struct Try.underlying28 hv
  obtain ⟨fuel, hf⟩ := h
  obtain ⟨l⟩ := cs
  obtain ⟨k, hk, ok⟩ := key_cells hf
  have e : l = k.cells := by simpa [Value.cells] using hk
  exact ⟨k, by rw [e]; rfl, ok⟩
end
def two (a b : ContD) : Nat → ContD
  | 0 => a
  | _ => b
def twoV (a b : CV) : Nat → CV
  | 0 => a
  | _ => b
theorem two_cells {u : World} {g : Nat} (x y : CV) (hb : Boxed u g [.int .i64 x.k, .slice x.rq x.rn x.rc, .slice x.kq x.kn x.kc, .int .i64 y.k, .slice y.rq y.rn y.rc, .slice y.kq y.kn y.kc]) : ∀ k, k < 2 → ∀ j z, ([.int .i64 (twoV x y k).k, .slice (twoV x y k).rq (twoV x y k).rn (twoV x y k).rc, .slice (twoV x y k).kq (twoV x y k).kn (twoV x y k).kc] : List Value)[j]? = some z → u.cell? ((⟨g, k * 3, none⟩ : Addr).add j) = some z := fun k hk i z hx => by
  match k, hk, hx with
  | 0, _, hx =>
    rw [show ((⟨g, 0 * 3, none⟩ : Addr).add i) = ⟨g, i, none⟩ by unfold Addr.add; split <;> simp_all]
    match i, hx with
    | 0, hx => cases hx; exact hb.cell 0 rfl
    | 1, hx => cases hx; exact hb.cell 1 rfl
    | 2, hx => cases hx; exact hb.cell 2 rfl
  | 1, _, hx =>
    rw [show ((⟨g, 1 * 3, none⟩ : Addr).add i) = ⟨g, 3 + i, none⟩ by unfold Addr.add; split <;> simp_all]
    match i, hx with
    | 0, hx => cases hx; exact hb.cell 3 rfl
    | 1, hx => cases hx; exact hb.cell 4 rfl
    | 2, hx => cases hx; exact hb.cell 5 rfl
theorem addr3 (B k i : Nat) : ((⟨B, k * 3, none⟩ : Addr).add i) = ⟨B, k * 3 + i, none⟩ := by unfold Addr.add; split <;> simp_all
theorem split_bad {c a b : ContD} {s : KeyD} {x : Int} (h : SplitR c a b s x) (hn : ¬ GoodC c) : x = 160 ∧ a = zeroC ∧ b = zeroC ∧ s = zK := by
  rcases h with ⟨_, h1, h2, h3, h4⟩ | ⟨hg, _⟩
  · exact ⟨h1, h2, h3, h4⟩
  · exact absurd hg hn
theorem split_no {c a b : ContD} {s : KeyD} {x : Int} (h : SplitR c a b s x) (hg : GoodC c) (hn : ¬ (c.kind ≠ 0 ∧ sizeC c = 4)) : x = 2 ∧ a = zeroC ∧ b = zeroC ∧ s = zK := by
  rcases h with ⟨h, _⟩ | ⟨_, ⟨_, h1, h2, h3, h4⟩ | ⟨h, _⟩⟩
  · exact absurd hg h
  · exact ⟨h1, h2, h3, h4⟩
  · exact absurd h hn
theorem split_ok {c a b : ContD} {s : KeyD} {x : Int} (h : SplitR c a b s x) (hg : GoodC c) (hf : c.kind ≠ 0 ∧ sizeC c = 4) : x = 0 ∧ a = cutA c 2 ∧ b = cutB c 2 ∧ s = cutS c 2 := by
  rcases h with ⟨h, _⟩ | ⟨_, ⟨h, _⟩ | ⟨_, h1, h2, h3, h4⟩⟩
  · exact absurd hg h
  · exact absurd hf h
  · exact ⟨h1, h2, h3, h4⟩
theorem join_bad {a b d : ContD} {s : KeyD} {x : Int} (h : JoinR a b s d x) (hn : ¬ (GoodC a ∧ GoodC b)) : x = 160 ∧ d = zeroC := by
  rcases h with ⟨h1, _, h2⟩ | ⟨hg, _⟩
  · exact ⟨h1, h2⟩
  · exact absurd hg hn
theorem join_arg {a b d : ContD} {s : KeyD} {x : Int} (h : JoinR a b s d x) (hg : GoodC a ∧ GoodC b) (hk : ¬ (a.kind ≠ 0 ∧ a.kind = b.kind)) : x = 2 ∧ d = zeroC := by
  rcases h with ⟨_, h, _⟩ | ⟨_, ⟨_, h1, h2⟩ | ⟨h, _⟩⟩
  · exact absurd hg h
  · exact ⟨h1, h2⟩
  · exact absurd h hk
theorem join_kinds {a b d : ContD} {s : KeyD} {x : Int} (h : JoinR a b s d x) (hg : GoodC a ∧ GoodC b) (hk : a.kind ≠ 0 ∧ a.kind = b.kind) : (4 < sizeC a + sizeC b ∧ x = 6 ∧ d = zeroC) ∨ (sizeC a + sizeC b ≤ 4 ∧ ((¬ GoodC (joinC a b s) ∧ x = 2 ∧ d = zeroC) ∨ (GoodC (joinC a b s) ∧ x = 0 ∧ d = joinC a b s))) := by
  rcases h with ⟨_, h, _⟩ | ⟨_, ⟨h, _⟩ | ⟨_, h⟩⟩
  · exact absurd hg h
  · rcases h with h | h
    · exact absurd h hk.1
    · exact absurd hk.2 h
  · exact h
theorem level_bad {a b p q : ContD} {s n : KeyD} {x : Int} (h : LevelR a b s p q n x) (hn : ¬ (GoodC a ∧ GoodC b)) : x = 160 ∧ p = zeroC ∧ q = zeroC ∧ n = zK := by
  rcases h with ⟨h1, _, h2, h3, h4⟩ | ⟨hg, _⟩
  · exact ⟨h1, h2, h3, h4⟩
  · exact absurd hg hn
theorem level_non {a b p q : ContD} {s n : KeyD} {x : Int} (h : LevelR a b s p q n x) (hg : GoodC a ∧ GoodC b) (hl : ¬ LvOk a b s) : x = 2 ∧ p = zeroC ∧ q = zeroC ∧ n = zK := by
  rcases h with ⟨_, h, _⟩ | ⟨_, ⟨_, h1, h2, h3, h4⟩ | ⟨h, _⟩⟩
  · exact absurd hg h
  · exact ⟨h1, h2, h3, h4⟩
  · exact absurd h hl
theorem level_yes2 {a b p q : ContD} {s n : KeyD} {x : Int} (h : LevelR a b s p q n x) (hg : GoodC a ∧ GoodC b) (hl : LvOk a b s) : x = 0 ∧ p = cutA (joinC a b s) (lvAt a b) ∧ q = cutB (joinC a b s) (lvAt a b) ∧ n = cutS (joinC a b s) (lvAt a b) := by
  rcases h with ⟨_, h, _⟩ | ⟨_, ⟨h, _⟩ | ⟨_, h1, h2, h3, h4⟩⟩
  · exact absurd hg h
  · exact absurd hl h
  · exact ⟨h1, h2, h3, h4⟩
set_option maxRecDepth 100000 in
set_option maxHeartbeats 32000000 in
theorem parts_law (k : Int) (rq : Option Addr) (rn rc : Nat) (kq : Option Addr) (kn kc : Nat) (a : ContD) (k2 : Int) (rq2 : Option Addr) (rn2 rc2 : Nat) (kq2 : Option Addr) (kn2 kc2 : Nat) (b : ContD) (kt ki : Int) (w : World) (hona : ContOn w k rq rn rc kq kn kc a) (honb : ContOn w k2 rq2 rn2 rc2 kq2 kn2 kc2 b) (hko : KeyOk ⟨kt, ki⟩) :
    Calls Try.prog 4 #[.agg #[.int .i64 k, .slice rq rn rc, .slice kq kn kc], .agg #[.int .i64 k2, .slice rq2 rn2 rc2, .slice kq2 kn2 kc2], .agg #[.int .i64 kt, .int .u16 ki]] w (fun e w' => e = .returned (.bool true) ∧ Below w.heap.size w w') := by
  have hona : CV.On ⟨k, rq, rn, rc, kq, kn, kc⟩ w a := hona
  have honb : CV.On ⟨k2, rq2, rn2, rc2, kq2, kn2, kc2⟩ w b := honb
  have hkda : Hid (k = a.kind) := hona.kind
  have hkdb : Hid (k2 = b.kind) := honb.kind
  have hva := Lib.hid (fun u (hu : Below w.heap.size w u) => hona.below hu (Nat.le_refl _))
  have hvb := Lib.hid (fun u (hu : Below w.heap.size w u) => honb.below hu (Nat.le_refl _))
  have hlen : Hid ((a.rows.length = rn ∧ a.kids.length = kn) ∧ (b.rows.length = rn2 ∧ b.kids.length = kn2)) := ⟨⟨hona.rl, hona.kl⟩, ⟨honb.rl, honb.kl⟩⟩
  have hko' := Lib.hid hko
  obtain ⟨W, hW⟩ : ∃ W, ((w.alloc (.cells #[.int .i64 k, .slice rq rn rc, .slice kq kn kc] 25)).alloc (.cells #[.int .i64 k2, .slice rq2 rn2 rc2, .slice kq2 kn2 kc2] 25)).alloc (.cells #[.int .i64 kt, .int .u16 ki] 28) = W := ⟨_, rfl⟩
  have hbx := Lib.hid (three_rows (xs := [.int .i64 k, .slice rq rn rc, .slice kq kn kc]) (ys := [.int .i64 k2, .slice rq2 rn2 rc2, .slice kq2 kn2 kc2]) (zs := [.int .i64 kt, .int .u16 ki]) hW)
  have hs := sizeCont (.int .i64 k) (.slice rq rn rc) (.slice kq kn kc)
  have hs2 := sizeCont (.int .i64 k2) (.slice rq2 rn2 rc2) (.slice kq2 kn2 kc2)
  have hs3 := sizeKey kt ki
  clear hona honb hko
  go_enter Try.func4, Try.ntmps4
  go_wp2_with fail
  clear hW
  refine (wakes_any W).mono ?_
  rintro e w1 ⟨rfl, hb⟩
  have hd := Lib.hid (below_step hb hbx.out.1)
  have ba := Lib.hid (hbx.out.2.1.boxed.below hb (Nat.le_refl _))
  have bb := Lib.hid (hbx.out.2.2.1.boxed.below hb (Nat.le_refl _))
  have bk := Lib.hid (hbx.out.2.2.2.1.boxed.below hb (Nat.le_refl _))
  clear hb hbx
  obtain ⟨wO, hwO⟩ : ∃ x, w1.alloc (.cells #[.int .i64 k, .slice rq rn rc, .slice kq kn kc, .int .i64 k2, .slice rq2 rn2 rc2, .slice kq2 kn2 kc2] 25) = x := ⟨_, rfl⟩
  have hbO := Lib.hid (one_box (xs := [.int .i64 k, .slice rq rn rc, .slice kq kn kc, .int .i64 k2, .slice rq2 rn2 rc2, .slice kq2 kn2 kc2]) hwO)
  have hdO := Lib.hid (below_step hbO.out.1 hd.out)
  have hov := Lib.hid (over_any 2 w1.heap.size wO (by decide) (fun j hj => ⟨twoV ⟨k, rq, rn, rc, kq, kn, kc⟩ ⟨k2, rq2, rn2, rc2, kq2, kn2, kc2⟩ j, two a b j, by
    match j, hj with
    | 0, _ => exact hva.out _ hdO.out
    | 1, _ => exact hvb.out _ hdO.out, two_cells ⟨k, rq, rn, rc, kq, kn, kc⟩ ⟨k2, rq2, rn2, rc2, kq2, kn2, kc2⟩ hbO.out.2.1 j hj⟩))
  go_wp2_with (first
    | (with_reducible refine wpList_load_at rfl 25 (.tmp 3) rfl Try.underlying25 rfl hs rfl ba.out.all ?_)
    | (with_reducible refine wpList_load_at rfl 25 (.tmp 4) rfl Try.underlying25 rfl hs2 rfl bb.out.all ?_))
  refine hov.out.mono ?_
  clear hov hwO
  rintro e w2 ⟨o, rfl, hb⟩
  have hd := Lib.hid (below_step hb hdO.out)
  have ba := Lib.hid ((ba.out.below hbO.out.1 (Nat.le_refl _)).below hb (Nat.le_refl _))
  have bb := Lib.hid ((bb.out.below hbO.out.1 (Nat.le_refl _)).below hb (Nat.le_refl _))
  have bk := Lib.hid ((bk.out.below hbO.out.1 (Nat.le_refl _)).below hb (Nat.le_refl _))
  clear hb hdO hbO
  cases o with
  | true =>
    clear hva hvb hkda hkdb hlen hko'
    go_wp2
    go_ret
    exact ⟨rfl, hd.out⟩
  | false =>
    go_wp2_with (first
      | (with_reducible refine wpList_load_at rfl 25 (.tmp 3) rfl Try.underlying25 rfl hs rfl ba.out.all ?_))
    refine (split_any ⟨k, rq, rn, rc, kq, kn, kc⟩ a w2 (hva.out _ hd.out)).mono ?_
    rintro e w3 ⟨⟨kx, rqx, rnx, rcx, kqx, knx, kcx⟩, ⟨ky, rqy, rny, rcy, kqy, kny, kcy⟩, dx, dy, ⟨tS, iS⟩, eS, rfl, hS, ox, oy, hb⟩
    have hS := Lib.hid hS
    have ox := Lib.hid ox
    have oy := Lib.hid oy
    have hd := Lib.hid (below_step hb hd.out)
    simp only [CV.val]
    have ba := Lib.hid (ba.out.below hb (Nat.le_refl _))
    have bb := Lib.hid (bb.out.below hb (Nat.le_refl _))
    have bk := Lib.hid (bk.out.below hb (Nat.le_refl _))
    clear hb
    obtain ⟨x0, hx0⟩ : ∃ x, ((w3.alloc (.cells #[.int .i64 0, .slice none 0 0, .slice none 0 0] 25)).alloc (.cells #[.int .i64 0, .slice none 0 0, .slice none 0 0] 25)).alloc (.cells #[.int .i64 0, .int .u16 0] 28) = x := ⟨_, rfl⟩
    have xr := Lib.hid (three_rows (xs := [.int .i64 0, .slice none 0 0, .slice none 0 0]) (ys := [.int .i64 0, .slice none 0 0, .slice none 0 0]) (zs := [.int .i64 0, .int .u16 0]) hx0)
    have xq := Lib.hid xr.out.1
    have bx := Lib.hid xr.out.2.1
    have by' := Lib.hid xr.out.2.2.1
    have b9 := Lib.hid xr.out.2.2.2.1
    have xsA := sizeCont (.int .i64 kx) (.slice rqx rnx rcx) (.slice kqx knx kcx)
    have xsB := sizeCont (.int .i64 ky) (.slice rqy rny rcy) (.slice kqy kny kcy)
    have xsK := sizeKey tS iS
    clear xr
    go_wp2_with (first
      | ((with_reducible refine wpList_store_at rfl 25 (.tmp 7) (.tmp 34) rfl (o := 0) (vs := [.int .i64 kx, .slice rqx rnx rcx, .slice kqx knx kcx]) rfl rfl bx.out xsA (Nat.le_refl _) (cont_one _ _ _ _ _ _ _) ?_)
         intro x1 h9 hg9
         have bx : Hid (RowV 25 x1 _ [.int .i64 kx, .slice rqx rnx rcx, .slice kqx knx kcx]) := h9
         have by' := Lib.hid (RowV.gr by'.out hg9 (by omega))
         have b9 := Lib.hid (RowV.gr b9.out hg9 (by omega))
         have xq := Lib.hid (Gr.below hg9 xq.out (by omega))
         clear h9 hg9)
      | ((with_reducible refine wpList_store_at rfl 25 (.tmp 8) (.tmp 35) rfl (o := 0) (vs := [.int .i64 ky, .slice rqy rny rcy, .slice kqy kny kcy]) rfl rfl by'.out xsB (Nat.le_refl _) (cont_one _ _ _ _ _ _ _) ?_)
         intro x2 h9 hg9
         have by' : Hid (RowV 25 x2 _ [.int .i64 ky, .slice rqy rny rcy, .slice kqy kny kcy]) := h9
         have bx := Lib.hid (RowV.gr bx.out hg9 (by omega))
         have b9 := Lib.hid (RowV.gr b9.out hg9 (by omega))
         have xq := Lib.hid (Gr.below hg9 xq.out (by omega))
         clear h9 hg9)
      | ((with_reducible refine wpList_store_at rfl 28 (.tmp 9) (.tmp 36) rfl (o := 0) (vs := [.int .i64 tS, .int .u16 iS]) rfl rfl b9.out xsK (Nat.le_refl _) (key_one _ _) ?_)
         intro x3 h9 hg9
         have b9 : Hid (RowV 28 x3 _ [.int .i64 tS, .int .u16 iS]) := h9
         have bx := Lib.hid (RowV.gr bx.out hg9 (by omega))
         have by' := Lib.hid (RowV.gr by'.out hg9 (by omega))
         have xq := Lib.hid (Gr.below hg9 xq.out (by omega))
         clear h9 hg9)
      | (with_reducible refine wpList_load_at rfl 25 (.tmp 3) rfl Try.underlying25 rfl hs rfl (ba.out.below xq.out (Nat.le_refl _)).all ?_)
      | (with_reducible refine wpList_load_at rfl 25 (.tmp 4) rfl Try.underlying25 rfl hs2 rfl (bb.out.below xq.out (Nat.le_refl _)).all ?_)
      | (with_reducible refine wpList_load_at rfl 28 (.tmp 5) rfl Try.underlying28 rfl hs3 rfl (bk.out.below xq.out (Nat.le_refl _)).all ?_))
    have ba := Lib.hid (ba.out.below xq.out (Nat.le_refl _))
    have bb := Lib.hid (bb.out.below xq.out (Nat.le_refl _))
    have bk := Lib.hid (bk.out.below xq.out (Nat.le_refl _))
    have ox := Lib.hid (CV.On.below ox.out xq.out (Nat.le_refl _))
    have oy := Lib.hid (CV.On.below oy.out xq.out (Nat.le_refl _))
    have bx := Lib.hid bx.out.boxed
    have by' := Lib.hid by'.out.boxed
    have b9 := Lib.hid b9.out.boxed
    have hd := Lib.hid (below_step xq.out hd.out)
    clear xq hx0 xsA xsB xsK
    refine (join_any ⟨k, rq, rn, rc, kq, kn, kc⟩ ⟨k2, rq2, rn2, rc2, kq2, kn2, kc2⟩ a b kt ki x3 (hva.out _ hd.out) (hvb.out _ hd.out) hko'.out).mono ?_
    rintro e w4 ⟨⟨kj, rqj, rnj, rcj, kqj, knj, kcj⟩, dj, eJ, rfl, hJ, oj, hb⟩
    have hJ := Lib.hid hJ
    have oj := Lib.hid oj
    have hd := Lib.hid (below_step hb hd.out)
    simp only [CV.val]
    have ba := Lib.hid (ba.out.below hb (Nat.le_refl _))
    have bb := Lib.hid (bb.out.below hb (Nat.le_refl _))
    have bk := Lib.hid (bk.out.below hb (Nat.le_refl _))
    have bx := Lib.hid (bx.out.below hb (Nat.le_refl _))
    have by' := Lib.hid (by'.out.below hb (Nat.le_refl _))
    have b9 := Lib.hid (b9.out.below hb (Nat.le_refl _))
    have ox := Lib.hid (CV.On.below ox.out hb (Nat.le_refl _))
    have oy := Lib.hid (CV.On.below oy.out hb (Nat.le_refl _))
    clear hb
    obtain ⟨y0, hy0⟩ : ∃ x, w4.alloc (.cells #[.int .i64 0, .slice none 0 0, .slice none 0 0] 25) = x := ⟨_, rfl⟩
    have yr := Lib.hid (one_row (xs := [.int .i64 0, .slice none 0 0, .slice none 0 0]) hy0)
    have xq := Lib.hid yr.out.1
    have bj := Lib.hid yr.out.2.1
    have xsA := sizeCont (.int .i64 kj) (.slice rqj rnj rcj) (.slice kqj knj kcj)
    clear yr
    go_wp2_with (first
      | ((with_reducible refine wpList_store_at rfl 25 (.tmp 11) (.tmp 43) rfl (o := 0) (vs := [.int .i64 kj, .slice rqj rnj rcj, .slice kqj knj kcj]) rfl rfl bj.out xsA (Nat.le_refl _) (cont_one _ _ _ _ _ _ _) ?_)
         intro y1 h9 hg9
         have bj : Hid (RowV 25 y1 _ [.int .i64 kj, .slice rqj rnj rcj, .slice kqj knj kcj]) := h9
         have xq := Lib.hid (Gr.below hg9 xq.out (Nat.le_refl _))
         clear h9 hg9)
      | (with_reducible refine wpList_load_at rfl 25 (.tmp 3) rfl Try.underlying25 rfl hs rfl (ba.out.below xq.out (Nat.le_refl _)).all ?_)
      | (with_reducible refine wpList_load_at rfl 25 (.tmp 4) rfl Try.underlying25 rfl hs2 rfl (bb.out.below xq.out (Nat.le_refl _)).all ?_)
      | (with_reducible refine wpList_load_at rfl 28 (.tmp 5) rfl Try.underlying28 rfl hs3 rfl (bk.out.below xq.out (Nat.le_refl _)).all ?_))
    have ba := Lib.hid (ba.out.below xq.out (Nat.le_refl _))
    have bb := Lib.hid (bb.out.below xq.out (Nat.le_refl _))
    have bk := Lib.hid (bk.out.below xq.out (Nat.le_refl _))
    have bx := Lib.hid (bx.out.below xq.out (Nat.le_refl _))
    have by' := Lib.hid (by'.out.below xq.out (Nat.le_refl _))
    have b9 := Lib.hid (b9.out.below xq.out (Nat.le_refl _))
    have ox := Lib.hid (CV.On.below ox.out xq.out (Nat.le_refl _))
    have oy := Lib.hid (CV.On.below oy.out xq.out (Nat.le_refl _))
    have oj := Lib.hid (CV.On.below oj.out xq.out (Nat.le_refl _))
    have bj := Lib.hid bj.out.boxed
    have hd := Lib.hid (below_step xq.out hd.out)
    clear xq hy0 xsA
    refine (level_any ⟨k, rq, rn, rc, kq, kn, kc⟩ ⟨k2, rq2, rn2, rc2, kq2, kn2, kc2⟩ a b kt ki y1 (hva.out _ hd.out) (hvb.out _ hd.out) hko'.out).mono ?_
    rintro e w5 ⟨⟨ku, rqu, rnu, rcu, kqu, knu, kcu⟩, ⟨kv, rqv, rnv, rcv, kqv, knv, kcv⟩, du, dv, ⟨tL, iL⟩, eL, rfl, hL, ou, ov, hb⟩
    have hL := Lib.hid hL
    have ou := Lib.hid ou
    have ov := Lib.hid ov
    have hd := Lib.hid (below_step hb hd.out)
    simp only [CV.val]
    have ba := Lib.hid (ba.out.below hb (Nat.le_refl _))
    have bb := Lib.hid (bb.out.below hb (Nat.le_refl _))
    have bk := Lib.hid (bk.out.below hb (Nat.le_refl _))
    have bx := Lib.hid (bx.out.below hb (Nat.le_refl _))
    have by' := Lib.hid (by'.out.below hb (Nat.le_refl _))
    have b9 := Lib.hid (b9.out.below hb (Nat.le_refl _))
    have bj := Lib.hid (bj.out.below hb (Nat.le_refl _))
    have ox := Lib.hid (CV.On.below ox.out hb (Nat.le_refl _))
    have oy := Lib.hid (CV.On.below oy.out hb (Nat.le_refl _))
    have oj := Lib.hid (CV.On.below oj.out hb (Nat.le_refl _))
    clear hb
    obtain ⟨z0, hz0⟩ : ∃ x, ((w5.alloc (.cells #[.int .i64 0, .slice none 0 0, .slice none 0 0] 25)).alloc (.cells #[.int .i64 0, .slice none 0 0, .slice none 0 0] 25)).alloc (.cells #[.int .i64 0, .int .u16 0] 28) = x := ⟨_, rfl⟩
    have xr := Lib.hid (three_rows (xs := [.int .i64 0, .slice none 0 0, .slice none 0 0]) (ys := [.int .i64 0, .slice none 0 0, .slice none 0 0]) (zs := [.int .i64 0, .int .u16 0]) hz0)
    have xq := Lib.hid xr.out.1
    have bu := Lib.hid xr.out.2.1
    have bv := Lib.hid xr.out.2.2.1
    have bn := Lib.hid xr.out.2.2.2.1
    have xsA := sizeCont (.int .i64 ku) (.slice rqu rnu rcu) (.slice kqu knu kcu)
    have xsB := sizeCont (.int .i64 kv) (.slice rqv rnv rcv) (.slice kqv knv kcv)
    have xsK := sizeKey tL iL
    clear xr
    go_wp2_with (first
      | ((with_reducible refine wpList_store_at rfl 25 (.tmp 13) (.tmp 50) rfl (o := 0) (vs := [.int .i64 ku, .slice rqu rnu rcu, .slice kqu knu kcu]) rfl rfl bu.out xsA (Nat.le_refl _) (cont_one _ _ _ _ _ _ _) ?_)
         intro z1 h9 hg9
         have bu : Hid (RowV 25 z1 _ [.int .i64 ku, .slice rqu rnu rcu, .slice kqu knu kcu]) := h9
         have bv := Lib.hid (RowV.gr bv.out hg9 (by omega))
         have bn := Lib.hid (RowV.gr bn.out hg9 (by omega))
         have xq := Lib.hid (Gr.below hg9 xq.out (by omega))
         clear h9 hg9)
      | ((with_reducible refine wpList_store_at rfl 25 (.tmp 14) (.tmp 51) rfl (o := 0) (vs := [.int .i64 kv, .slice rqv rnv rcv, .slice kqv knv kcv]) rfl rfl bv.out xsB (Nat.le_refl _) (cont_one _ _ _ _ _ _ _) ?_)
         intro z2 h9 hg9
         have bv : Hid (RowV 25 z2 _ [.int .i64 kv, .slice rqv rnv rcv, .slice kqv knv kcv]) := h9
         have bu := Lib.hid (RowV.gr bu.out hg9 (by omega))
         have bn := Lib.hid (RowV.gr bn.out hg9 (by omega))
         have xq := Lib.hid (Gr.below hg9 xq.out (by omega))
         clear h9 hg9)
      | ((with_reducible refine wpList_store_at rfl 28 (.tmp 15) (.tmp 52) rfl (o := 0) (vs := [.int .i64 tL, .int .u16 iL]) rfl rfl bn.out xsK (Nat.le_refl _) (key_one _ _) ?_)
         intro z3 h9 hg9
         have bn : Hid (RowV 28 z3 _ [.int .i64 tL, .int .u16 iL]) := h9
         have bu := Lib.hid (RowV.gr bu.out hg9 (by omega))
         have bv := Lib.hid (RowV.gr bv.out hg9 (by omega))
         have xq := Lib.hid (Gr.below hg9 xq.out (by omega))
         clear h9 hg9)
      | (with_reducible refine wpList_load_at rfl 25 (.tmp 3) rfl Try.underlying25 rfl hs rfl (ba.out.below xq.out (Nat.le_refl _)).all ?_))
    have ba := Lib.hid (ba.out.below xq.out (Nat.le_refl _))
    have bb := Lib.hid (bb.out.below xq.out (Nat.le_refl _))
    have bk := Lib.hid (bk.out.below xq.out (Nat.le_refl _))
    have bx := Lib.hid (bx.out.below xq.out (Nat.le_refl _))
    have by' := Lib.hid (by'.out.below xq.out (Nat.le_refl _))
    have b9 := Lib.hid (b9.out.below xq.out (Nat.le_refl _))
    have bj := Lib.hid (bj.out.below xq.out (Nat.le_refl _))
    have ox := Lib.hid (CV.On.below ox.out xq.out (Nat.le_refl _))
    have oy := Lib.hid (CV.On.below oy.out xq.out (Nat.le_refl _))
    have oj := Lib.hid (CV.On.below oj.out xq.out (Nat.le_refl _))
    have ou := Lib.hid (CV.On.below ou.out xq.out (Nat.le_refl _))
    have ov := Lib.hid (CV.On.below ov.out xq.out (Nat.le_refl _))
    have bu := Lib.hid bu.out.boxed
    have bv := Lib.hid bv.out.boxed
    have bn := Lib.hid bn.out.boxed
    have hdB := Lib.hid (below_step xq.out hd.out)
    clear xq hz0 xsA xsB xsK hd
    have hq : Hid (Below z3.heap.size z3 z3) := Below.refl _ _
    refine (right_doc k rq rn rc kq kn kc a z3 (hva.out _ (below_step hq.out hdB.out))).mono ?_
    rintro e w6 ⟨ga, rfl, hga, hb⟩
    have hq := Lib.hid (below_step hb hq.out)
    clear hb
    cases ga with
    | false =>
      have hnA : ¬ GoodC a := fun h => by have := hga.2 h; cases this
      obtain ⟨rfl, rfl, rfl, hzs⟩ := split_bad hS.out hnA
      obtain ⟨rfl, rfl⟩ := join_bad hJ.out (fun h => hnA h.1)
      obtain ⟨rfl, rfl, rfl, hzl⟩ := level_bad hL.out (fun h => hnA h.1)
      obtain ⟨rfl, rfl⟩ : tS = 0 ∧ iS = 0 := by have e := hzs; simp only [zK, KeyD.mk.injEq] at e; exact e
      obtain ⟨rfl, rfl⟩ : tL = 0 ∧ iL = 0 := by have e := hzl; simp only [zK, KeyD.mk.injEq] at e; exact e
      clear hzs hzl hS hJ hL hga hnA
      obtain ⟨wN, hwN⟩ : ∃ x, w6.alloc (.cells #[.int .i64 kx, .slice rqx rnx rcx, .slice kqx knx kcx, .int .i64 ky, .slice rqy rny rcy, .slice kqy kny kcy, .int .i64 kj, .slice rqj rnj rcj, .slice kqj knj kcj, .int .i64 ku, .slice rqu rnu rcu, .slice kqu knu kcu, .int .i64 kv, .slice rqv rnv rcv, .slice kqv knv kcv] 25) = x := ⟨_, rfl⟩
      have hbN := Lib.hid (one_box (xs := [.int .i64 kx, .slice rqx rnx rcx, .slice kqx knx kcx, .int .i64 ky, .slice rqy rny rcy, .slice kqy kny kcy, .int .i64 kj, .slice rqj rnj rcj, .slice kqj knj kcj, .int .i64 ku, .slice rqu rnu rcu, .slice kqu knu kcu, .int .i64 kv, .slice rqv rnv rcv, .slice kqv knv kcv]) hwN)
      have hqN := Lib.hid (below_step hbN.out.1 hq.out)
      have hno := none_any 5 w6.heap.size wN (by decide) (fun j hj => by
        have hb := hbN.out.2.1
        match j, hj with
        | 0, _ => exact ⟨⟨kx, rqx, rnx, rcx, kqx, knx, kcx⟩, (CV.On.below ox.out hqN.out (Nat.le_refl _)), fun i x hx => by
            rw [addr3]
            match i, hx with
            | 0, hx => cases hx; exact hb.cell 0 rfl
            | 1, hx => cases hx; exact hb.cell 1 rfl
            | 2, hx => cases hx; exact hb.cell 2 rfl
            | i + 3, hx => simp at hx⟩
        | 1, _ => exact ⟨⟨ky, rqy, rny, rcy, kqy, kny, kcy⟩, (CV.On.below oy.out hqN.out (Nat.le_refl _)), fun i x hx => by
            rw [addr3]
            match i, hx with
            | 0, hx => cases hx; exact hb.cell 3 rfl
            | 1, hx => cases hx; exact hb.cell 4 rfl
            | 2, hx => cases hx; exact hb.cell 5 rfl
            | i + 3, hx => simp at hx⟩
        | 2, _ => exact ⟨⟨kj, rqj, rnj, rcj, kqj, knj, kcj⟩, (CV.On.below oj.out hqN.out (Nat.le_refl _)), fun i x hx => by
            rw [addr3]
            match i, hx with
            | 0, hx => cases hx; exact hb.cell 6 rfl
            | 1, hx => cases hx; exact hb.cell 7 rfl
            | 2, hx => cases hx; exact hb.cell 8 rfl
            | i + 3, hx => simp at hx⟩
        | 3, _ => exact ⟨⟨ku, rqu, rnu, rcu, kqu, knu, kcu⟩, (CV.On.below ou.out hqN.out (Nat.le_refl _)), fun i x hx => by
            rw [addr3]
            match i, hx with
            | 0, hx => cases hx; exact hb.cell 9 rfl
            | 1, hx => cases hx; exact hb.cell 10 rfl
            | 2, hx => cases hx; exact hb.cell 11 rfl
            | i + 3, hx => simp at hx⟩
        | 4, _ => exact ⟨⟨kv, rqv, rnv, rcv, kqv, knv, kcv⟩, (CV.On.below ov.out hqN.out (Nat.le_refl _)), fun i x hx => by
            rw [addr3]
            match i, hx with
            | 0, hx => cases hx; exact hb.cell 12 rfl
            | 1, hx => cases hx; exact hb.cell 13 rfl
            | 2, hx => cases hx; exact hb.cell 14 rfl
            | i + 3, hx => simp at hx⟩
        | j + 5, hj => omega)
      go_wp2_with (first
        | (with_reducible refine wpList_load_at rfl 25 (.tmp 7) rfl Try.underlying25 rfl (sizeCont (.int .i64 kx) (.slice rqx rnx rcx) (.slice kqx knx kcx)) rfl (bx.out.below hq.out (Nat.le_refl _)).all ?_)
        | (with_reducible refine wpList_load_at rfl 25 (.tmp 8) rfl Try.underlying25 rfl (sizeCont (.int .i64 ky) (.slice rqy rny rcy) (.slice kqy kny kcy)) rfl (by'.out.below hq.out (Nat.le_refl _)).all ?_)
        | (with_reducible refine wpList_load_at rfl 25 (.tmp 11) rfl Try.underlying25 rfl (sizeCont (.int .i64 kj) (.slice rqj rnj rcj) (.slice kqj knj kcj)) rfl (bj.out.below hq.out (Nat.le_refl _)).all ?_)
        | (with_reducible refine wpList_load_at rfl 25 (.tmp 13) rfl Try.underlying25 rfl (sizeCont (.int .i64 ku) (.slice rqu rnu rcu) (.slice kqu knu kcu)) rfl (bu.out.below hq.out (Nat.le_refl _)).all ?_)
        | (with_reducible refine wpList_load_at rfl 25 (.tmp 14) rfl Try.underlying25 rfl (sizeCont (.int .i64 kv) (.slice rqv rnv rcv) (.slice kqv knv kcv)) rfl (bv.out.below hq.out (Nat.le_refl _)).all ?_))
      refine hno.mono ?_
      clear hno hwN
      rintro e w7 ⟨rfl, hb⟩
      have hq := Lib.hid (below_step hb hqN.out)
      clear hb hbN hqN
      have heq := fun u => eq_key u 0 0 0 0
      rw [show eqK ⟨0, 0⟩ ⟨0, 0⟩ = true from eqK_iff.2 rfl] at heq
      have k0 := (b9.out.below hq.out (Nat.le_refl _)).cell 0 rfl
      have k1 := (b9.out.below hq.out (Nat.le_refl _)).cell 1 rfl
      have n0 := (bn.out.below hq.out (Nat.le_refl _)).cell 0 rfl
      have n1 := (bn.out.below hq.out (Nat.le_refl _)).cell 1 rfl
      go_wp2
      go_ret
      exact ⟨rfl, below_step hq.out hdB.out⟩
    | true =>
      have hgA := Lib.hid (hga.1 rfl)
      clear hga
      obtain ⟨fa, hfa⟩ := bool_of (a.kind ≠ 0 ∧ sizeC a = 4)
      have hfa' := Lib.hid hfa
      have hza := Lib.hid (good_size hgA.out)
      have a0 := (ba.out.below hq.out (Nat.le_refl _)).cell 0 rfl
      have a1 := (ba.out.below hq.out (Nat.le_refl _)).cell 1 rfl
      have a2 := (ba.out.below hq.out (Nat.le_refl _)).cell 2 rfl
      go_wp2_with fail
      clear a0 a1 a2
      refine (refFull_any ⟨k, rq, rn, rc, kq, kn, kc⟩ a fa hfa w6 (hva.out _ (below_step hq.out hdB.out)) (Nat.le_trans hza.out (by decide))).mono ?_
      rintro e w7 ⟨rfl, hb⟩
      have hq := Lib.hid (below_step hb hq.out)
      clear hb
      clear hfa
      go_upto_if 88 with fail
      go_cut [17, 18, 19] from 89 to 127 (fun v17 v18 v19 wx => Hid (Below z3.heap.size z3 wx))
      case first =>
        cases fa with
        | false =>
          obtain ⟨rfl, rfl, rfl, hzs⟩ := split_no hS.out hgA.out (fun h => by have := hfa'.out.2 h; cases this)
          obtain ⟨rfl, rfl⟩ : tS = 0 ∧ iS = 0 := by have e := hzs; simp only [zK, KeyD.mk.injEq] at e; exact e
          clear hzs hS hfa'
          obtain ⟨wN, hwN⟩ : ∃ x, w7.alloc (.cells #[.int .i64 kx, .slice rqx rnx rcx, .slice kqx knx kcx, .int .i64 ky, .slice rqy rny rcy, .slice kqy kny kcy] 25) = x := ⟨_, rfl⟩
          have hbN := Lib.hid (one_box (xs := [.int .i64 kx, .slice rqx rnx rcx, .slice kqx knx kcx, .int .i64 ky, .slice rqy rny rcy, .slice kqy kny kcy]) hwN)
          have hqN := Lib.hid (below_step hbN.out.1 hq.out)
          have hno := none_any 2 w7.heap.size wN (by decide) (fun j hj => by
            have hb := hbN.out.2.1
            match j, hj with
            | 0, _ => exact ⟨⟨kx, rqx, rnx, rcx, kqx, knx, kcx⟩, (CV.On.below ox.out hqN.out (Nat.le_refl _)), fun i x hx => by
                rw [addr3]
                match i, hx with
                | 0, hx => cases hx; exact hb.cell 0 rfl
                | 1, hx => cases hx; exact hb.cell 1 rfl
                | 2, hx => cases hx; exact hb.cell 2 rfl
                | i + 3, hx => simp at hx⟩
            | 1, _ => exact ⟨⟨ky, rqy, rny, rcy, kqy, kny, kcy⟩, (CV.On.below oy.out hqN.out (Nat.le_refl _)), fun i x hx => by
                rw [addr3]
                match i, hx with
                | 0, hx => cases hx; exact hb.cell 3 rfl
                | 1, hx => cases hx; exact hb.cell 4 rfl
                | 2, hx => cases hx; exact hb.cell 5 rfl
                | i + 3, hx => simp at hx⟩
            | j + 2, hj => omega)
          go_wp2_with (first
            | (with_reducible refine wpList_load_at rfl 25 (.tmp 7) rfl Try.underlying25 rfl (sizeCont (.int .i64 kx) (.slice rqx rnx rcx) (.slice kqx knx kcx)) rfl (bx.out.below hq.out (Nat.le_refl _)).all ?_)
            | (with_reducible refine wpList_load_at rfl 25 (.tmp 8) rfl Try.underlying25 rfl (sizeCont (.int .i64 ky) (.slice rqy rny rcy) (.slice kqy kny kcy)) rfl (by'.out.below hq.out (Nat.le_refl _)).all ?_))
          refine hno.mono ?_
          clear hno hwN
          rintro e w8 ⟨rfl, hb⟩
          have hq := Lib.hid (below_step hb hqN.out)
          clear hb hbN hqN
          have heq := fun u => neq_key u 0 0 0 0
          rw [show eqK ⟨0, 0⟩ ⟨0, 0⟩ = true from eqK_iff.2 rfl] at heq
          have k0 := (b9.out.below hq.out (Nat.le_refl _)).cell 0 rfl
          have k1 := (b9.out.below hq.out (Nat.le_refl _)).cell 1 rfl
          go_wp2_with fail
          go_meet
          case rel => exact hq
        | true =>
          have hf := hfa'.out.1 rfl
          obtain ⟨rfl, rfl, rfl, hzs⟩ := split_ok hS.out hgA.out hf
          have hf := Lib.hid hf
          have hzs := Lib.hid hzs
          clear hS hfa'
          have a0 := (ba.out.below hq.out (Nat.le_refl _)).cell 0 rfl
          have a1 := (ba.out.below hq.out (Nat.le_refl _)).cell 1 rfl
          have a2 := (ba.out.below hq.out (Nat.le_refl _)).cell 2 rfl
          go_wp2_with fail
          clear a0 a1 a2
          refine (refCut_any ⟨k, rq, rn, rc, kq, kn, kc⟩ a 2 w7 (hva.out _ (below_step hq.out hdB.out)) (kind_in hgA.out hf.out.1) (fun e => (good_leaf hgA.out e).2) (fun e => (good_inner hgA.out e).2) (by rw [hf.out.2]; decide) (by rw [hf.out.2]; decide)).mono ?_
          rintro e w8 ⟨⟨kp, rqp, rnp, rcp, kqp, knp, kcp⟩, ⟨kq, rqq, rnq, rcq, kqq, knq, kcq⟩, rfl, op, oq, _, _, hb⟩
          have hq := Lib.hid (below_step hb hq.out)
          have op := Lib.hid op
          have oq := Lib.hid oq
          rw [← hzs.out]
          simp only [CV.val]
          clear hb
          obtain ⟨p0, hp0⟩ : ∃ x, ((w8.alloc (.cells #[.int .i64 0, .slice none 0 0, .slice none 0 0] 25)).alloc (.cells #[.int .i64 0, .slice none 0 0, .slice none 0 0] 25)).alloc (.cells #[.int .i64 0, .int .u16 0] 28) = x := ⟨_, rfl⟩
          have xr := Lib.hid (three_rows (xs := [.int .i64 0, .slice none 0 0, .slice none 0 0]) (ys := [.int .i64 0, .slice none 0 0, .slice none 0 0]) (zs := [.int .i64 0, .int .u16 0]) hp0)
          have xq := Lib.hid xr.out.1
          have bp := Lib.hid xr.out.2.1
          have bq := Lib.hid xr.out.2.2.1
          have bs := Lib.hid xr.out.2.2.2.1
          have xsA := sizeCont (.int .i64 kp) (.slice rqp rnp rcp) (.slice kqp knp kcp)
          have xsB := sizeCont (.int .i64 kq) (.slice rqq rnq rcq) (.slice kqq knq kcq)
          have xsK := sizeKey tS iS
          clear xr
          go_wp2_with (first
            | ((with_reducible refine wpList_store_at rfl 25 (.tmp 17) (.tmp 106) rfl (o := 0) (vs := [.int .i64 kp, .slice rqp rnp rcp, .slice kqp knp kcp]) rfl rfl bp.out xsA (Nat.le_refl _) (cont_one _ _ _ _ _ _ _) ?_)
               intro p1 h9 hg9
               have bp : Hid (RowV 25 p1 _ [.int .i64 kp, .slice rqp rnp rcp, .slice kqp knp kcp]) := h9
               have bq := Lib.hid (RowV.gr bq.out hg9 (by omega))
               have bs := Lib.hid (RowV.gr bs.out hg9 (by omega))
               have xq := Lib.hid (Gr.below hg9 xq.out (by omega))
               clear h9 hg9)
            | ((with_reducible refine wpList_store_at rfl 25 (.tmp 18) (.tmp 107) rfl (o := 0) (vs := [.int .i64 kq, .slice rqq rnq rcq, .slice kqq knq kcq]) rfl rfl bq.out xsB (Nat.le_refl _) (cont_one _ _ _ _ _ _ _) ?_)
               intro p2 h9 hg9
               have bq : Hid (RowV 25 p2 _ [.int .i64 kq, .slice rqq rnq rcq, .slice kqq knq kcq]) := h9
               have bp := Lib.hid (RowV.gr bp.out hg9 (by omega))
               have bs := Lib.hid (RowV.gr bs.out hg9 (by omega))
               have xq := Lib.hid (Gr.below hg9 xq.out (by omega))
               clear h9 hg9)
            | ((with_reducible refine wpList_store_at rfl 28 (.tmp 19) (.tmp 108) rfl (o := 0) (vs := [.int .i64 tS, .int .u16 iS]) rfl rfl bs.out xsK (Nat.le_refl _) (key_one _ _) ?_)
               intro p3 h9 hg9
               have bs : Hid (RowV 28 p3 _ [.int .i64 tS, .int .u16 iS]) := h9
               have bp := Lib.hid (RowV.gr bp.out hg9 (by omega))
               have bq := Lib.hid (RowV.gr bq.out hg9 (by omega))
               have xq := Lib.hid (Gr.below hg9 xq.out (by omega))
               have hq := Lib.hid (below_step xq.out hq.out)
               have op := Lib.hid (CV.On.below op.out xq.out (Nat.le_refl _))
               have oq := Lib.hid (CV.On.below oq.out xq.out (Nat.le_refl _))
               have bp := Lib.hid bp.out.boxed
               have bq := Lib.hid bq.out.boxed
               have bs := Lib.hid bs.out.boxed
               have x0 := (bx.out.below hq.out (Nat.le_refl _)).cell 0 rfl
               have x1 := (bx.out.below hq.out (Nat.le_refl _)).cell 1 rfl
               have x2 := (bx.out.below hq.out (Nat.le_refl _)).cell 2 rfl
               have p0 := bp.out.cell 0 rfl
               have p1' := bp.out.cell 1 rfl
               have p2' := bp.out.cell 2 rfl
               clear h9 hg9 xq))
          clear hp0 xsA xsB xsK x0 x1 x2 p0 p1' p2'
          have hsm := lsame_any ⟨kx, rqx, rnx, rcx, kqx, knx, kcx⟩ ⟨kp, rqp, rnp, rcp, kqp, knp, kcp⟩ _ _ p3 (CV.On.below ox.out hq.out (Nat.le_refl _)) op.out
          rw [sameC_iff.2 rfl] at hsm
          refine hsm.mono ?_
          rintro e w9 ⟨rfl, hb⟩
          have hq := Lib.hid (below_step hb hq.out)
          have oq := Lib.hid (CV.On.below oq.out hb (Nat.le_refl _))
          have bq := Lib.hid (bq.out.below hb (Nat.le_refl _))
          have bs := Lib.hid (bs.out.below hb (Nat.le_refl _))
          clear hb hsm
          have y0 := (by'.out.below hq.out (Nat.le_refl _)).cell 0 rfl
          have y1 := (by'.out.below hq.out (Nat.le_refl _)).cell 1 rfl
          have y2 := (by'.out.below hq.out (Nat.le_refl _)).cell 2 rfl
          have q0 := bq.out.cell 0 rfl
          have q1 := bq.out.cell 1 rfl
          have q2 := bq.out.cell 2 rfl
          go_wp2_with fail
          clear y0 y1 y2 q0 q1 q2
          have hsm := lsame_any ⟨ky, rqy, rny, rcy, kqy, kny, kcy⟩ ⟨kq, rqq, rnq, rcq, kqq, knq, kcq⟩ _ _ w9 (CV.On.below oy.out hq.out (Nat.le_refl _)) oq.out
          rw [sameC_iff.2 rfl] at hsm
          refine hsm.mono ?_
          rintro e wa ⟨rfl, hb⟩
          have hq := Lib.hid (below_step hb hq.out)
          have bs := Lib.hid (bs.out.below hb (Nat.le_refl _))
          clear hb hsm
          have heq := fun u => neq_key u tS iS tS iS
          rw [show eqK ⟨tS, iS⟩ ⟨tS, iS⟩ = true from eqK_iff.2 rfl] at heq
          have k0 := (b9.out.below hq.out (Nat.le_refl _)).cell 0 rfl
          have k1 := (b9.out.below hq.out (Nat.le_refl _)).cell 1 rfl
          have s0 := bs.out.cell 0 rfl
          have s1 := bs.out.cell 1 rfl
          go_wp2_with fail
          go_meet
          case rel => exact hq
      case rest =>
        have hq := hcut
        clear hcut hfa' hS
        go_wp2_with (first
          | (with_reducible refine wpList_load_at rfl 25 (.tmp 4) rfl Try.underlying25 rfl hs2 rfl (bb.out.below hq.out (Nat.le_refl _)).all ?_))
        refine (right_doc k2 rq2 rn2 rc2 kq2 kn2 kc2 b wc (hvb.out _ (below_step hq.out hdB.out))).mono ?_
        rintro e w8 ⟨gb, rfl, hgb, hb⟩
        have hq := Lib.hid (below_step hb hq.out)
        clear hb
        cases gb with
        | false =>
          have hnB : ¬ GoodC b := fun h => by have := hgb.2 h; cases this
          obtain ⟨rfl, rfl⟩ := join_bad hJ.out (fun h => hnB h.2)
          obtain ⟨rfl, rfl, rfl, hzl⟩ := level_bad hL.out (fun h => hnB h.2)
          obtain ⟨rfl, rfl⟩ : tL = 0 ∧ iL = 0 := by have e := hzl; simp only [zK, KeyD.mk.injEq] at e; exact e
          clear hzl hJ hL hgb hnB
          obtain ⟨wN, hwN⟩ : ∃ x, w8.alloc (.cells #[.int .i64 kj, .slice rqj rnj rcj, .slice kqj knj kcj, .int .i64 ku, .slice rqu rnu rcu, .slice kqu knu kcu, .int .i64 kv, .slice rqv rnv rcv, .slice kqv knv kcv] 25) = x := ⟨_, rfl⟩
          have hbN := Lib.hid (one_box (xs := [.int .i64 kj, .slice rqj rnj rcj, .slice kqj knj kcj, .int .i64 ku, .slice rqu rnu rcu, .slice kqu knu kcu, .int .i64 kv, .slice rqv rnv rcv, .slice kqv knv kcv]) hwN)
          have hqN := Lib.hid (below_step hbN.out.1 hq.out)
          have hno := none_any 3 w8.heap.size wN (by decide) (fun j hj => by
            have hb := hbN.out.2.1
            match j, hj with
            | 0, _ => exact ⟨⟨kj, rqj, rnj, rcj, kqj, knj, kcj⟩, (CV.On.below oj.out hqN.out (Nat.le_refl _)), fun i x hx => by
                rw [addr3]
                match i, hx with
                | 0, hx => cases hx; exact hb.cell 0 rfl
                | 1, hx => cases hx; exact hb.cell 1 rfl
                | 2, hx => cases hx; exact hb.cell 2 rfl
                | i + 3, hx => simp at hx⟩
            | 1, _ => exact ⟨⟨ku, rqu, rnu, rcu, kqu, knu, kcu⟩, (CV.On.below ou.out hqN.out (Nat.le_refl _)), fun i x hx => by
                rw [addr3]
                match i, hx with
                | 0, hx => cases hx; exact hb.cell 3 rfl
                | 1, hx => cases hx; exact hb.cell 4 rfl
                | 2, hx => cases hx; exact hb.cell 5 rfl
                | i + 3, hx => simp at hx⟩
            | 2, _ => exact ⟨⟨kv, rqv, rnv, rcv, kqv, knv, kcv⟩, (CV.On.below ov.out hqN.out (Nat.le_refl _)), fun i x hx => by
                rw [addr3]
                match i, hx with
                | 0, hx => cases hx; exact hb.cell 6 rfl
                | 1, hx => cases hx; exact hb.cell 7 rfl
                | 2, hx => cases hx; exact hb.cell 8 rfl
                | i + 3, hx => simp at hx⟩
            | j + 3, hj => omega)
          go_wp2_with (first
            | (with_reducible refine wpList_load_at rfl 25 (.tmp 11) rfl Try.underlying25 rfl (sizeCont (.int .i64 kj) (.slice rqj rnj rcj) (.slice kqj knj kcj)) rfl (bj.out.below hq.out (Nat.le_refl _)).all ?_)
            | (with_reducible refine wpList_load_at rfl 25 (.tmp 13) rfl Try.underlying25 rfl (sizeCont (.int .i64 ku) (.slice rqu rnu rcu) (.slice kqu knu kcu)) rfl (bu.out.below hq.out (Nat.le_refl _)).all ?_)
            | (with_reducible refine wpList_load_at rfl 25 (.tmp 14) rfl Try.underlying25 rfl (sizeCont (.int .i64 kv) (.slice rqv rnv rcv) (.slice kqv knv kcv)) rfl (bv.out.below hq.out (Nat.le_refl _)).all ?_))
          refine hno.mono ?_
          clear hno hwN
          rintro e w9 ⟨rfl, hb⟩
          have hq := Lib.hid (below_step hb hqN.out)
          clear hb hbN hqN
          have heq := fun u => eq_key u 0 0 0 0
          rw [show eqK ⟨0, 0⟩ ⟨0, 0⟩ = true from eqK_iff.2 rfl] at heq
          have n0 := (bn.out.below hq.out (Nat.le_refl _)).cell 0 rfl
          have n1 := (bn.out.below hq.out (Nat.le_refl _)).cell 1 rfl
          go_wp2
          go_ret
          exact ⟨rfl, below_step hq.out hdB.out⟩
        | true =>
          have hG := Lib.hid (And.intro hgA.out (hgb.1 rfl))
          clear hgb
          have hzb := Lib.hid (good_size hG.out.2)
          have hsm4 : Hid ((rn ≤ 1000000 ∧ kn ≤ 1000000) ∧ (rn2 ≤ 1000000 ∧ kn2 ≤ 1000000)) := by
            have h1 := hza.out
            have h2 := hzb.out
            have h3 := hlen.out
            unfold sizeC at h1 h2
            exact ⟨⟨by omega, by omega⟩, ⟨by omega, by omega⟩⟩
          go_wp2_with (first
            | (with_reducible refine wpList_load_at rfl 25 (.tmp 3) rfl Try.underlying25 rfl hs rfl (ba.out.below hq.out (Nat.le_refl _)).all ?_)
            | (with_reducible refine wpList_load_at rfl 25 (.tmp 4) rfl Try.underlying25 rfl hs2 rfl (bb.out.below hq.out (Nat.le_refl _)).all ?_)
            | (with_reducible refine wpList_load_at rfl 28 (.tmp 5) rfl Try.underlying28 rfl hs3 rfl (bk.out.below hq.out (Nat.le_refl _)).all ?_))
          refine (refBoth_any ⟨k, rq, rn, rc, kq, kn, kc⟩ ⟨k2, rq2, rn2, rc2, kq2, kn2, kc2⟩ a b kt ki w8 (hva.out _ (below_step hq.out hdB.out)) (hvb.out _ (below_step hq.out hdB.out)) hko'.out hsm4.out.1.1 hsm4.out.1.2 hsm4.out.2.1 hsm4.out.2.2).mono ?_
          rintro e w9 ⟨⟨ko, rqo, rno, rco, kqo, kno, kco⟩, rfl, oo, _, hb⟩
          have hq := Lib.hid (below_step hb hq.out)
          have oo := Lib.hid oo
          simp only [CV.val]
          clear hb
          obtain ⟨o0, ho0⟩ : ∃ x, w9.alloc (.cells #[.int .i64 0, .slice none 0 0, .slice none 0 0] 25) = x := ⟨_, rfl⟩
          have yr := Lib.hid (one_row (xs := [.int .i64 0, .slice none 0 0, .slice none 0 0]) ho0)
          have xq := Lib.hid yr.out.1
          have bo := Lib.hid yr.out.2.1
          have xsO := sizeCont (.int .i64 ko) (.slice rqo rno rco) (.slice kqo kno kco)
          clear yr
          obtain ⟨D, hD⟩ := bool_of (¬ (a.kind ≠ 0 ∧ a.kind = b.kind))
          have hD' := Lib.hid hD
          clear hD
          go_upto_block 0 with (first
            | ((with_reducible refine wpList_store_at rfl 25 (.tmp 20) (.tmp 152) rfl (o := 0) (vs := [.int .i64 ko, .slice rqo rno rco, .slice kqo kno kco]) rfl rfl bo.out xsO (Nat.le_refl _) (cont_one _ _ _ _ _ _ _) ?_)
               intro o1 h9 hg9
               have bo : Hid (RowV 25 o1 _ [.int .i64 ko, .slice rqo rno rco, .slice kqo kno kco]) := h9
               have xq := Lib.hid (Gr.below hg9 xq.out (Nat.le_refl _))
               clear h9 hg9))
          have oo := Lib.hid (CV.On.below oo.out xq.out (Nat.le_refl _))
          have bo := Lib.hid bo.out.boxed
          have hq := Lib.hid (below_step xq.out hq.out)
          clear xq ho0
          go_frame
          go_cut [153, 172, 184, 196] from 153 to 204 (fun v0 v1 v2 v3 wx => Hid (Below o1.heap.size o1 wx))
          case first =>
            have hqC : Hid (Below o1.heap.size o1 o1) := Below.refl _ _
            have a0 := (ba.out.below hq.out (Nat.le_refl _)).cell 0 rfl
            have b0 := (bb.out.below hq.out (Nat.le_refl _)).cell 0 rfl
            by_cases hkk : k = k2
            rotate_left
            · have d1 : (k != k2) = true := by simpa using hkk
              obtain rfl : D = true := hD'.out.2 (fun h => hkk (by rw [hkda.out, hkdb.out]; exact h.2))
              clear hkk
              obtain ⟨rfl, rfl⟩ := join_arg hJ.out hG.out (hD'.out.1 rfl)
              clear hJ
              obtain ⟨wN, hwN⟩ : ∃ x, o1.alloc (.cells #[.int .i64 kj, .slice rqj rnj rcj, .slice kqj knj kcj] 25) = x := ⟨_, rfl⟩
              have hbN := Lib.hid (one_box (xs := [.int .i64 kj, .slice rqj rnj rcj, .slice kqj knj kcj]) hwN)
              have hqN := Lib.hid (below_step hbN.out.1 hq.out)
              have hno := none_any 1 o1.heap.size wN (by decide) (fun j hj => by
                have hb := hbN.out.2.1
                match j, hj with
                | 0, _ => exact ⟨⟨kj, rqj, rnj, rcj, kqj, knj, kcj⟩, (CV.On.below oj.out hqN.out (Nat.le_refl _)), fun i x hx => by
                    rw [addr3]
                    match i, hx with
                    | 0, hx => cases hx; exact hb.cell 0 rfl
                    | 1, hx => cases hx; exact hb.cell 1 rfl
                    | 2, hx => cases hx; exact hb.cell 2 rfl
                    | i + 3, hx => simp at hx⟩
                | j + 1, hj => omega)
              go_wp2_with (first
                | (with_reducible refine wpList_load_at rfl 25 (.tmp 11) rfl Try.underlying25 rfl (sizeCont (.int .i64 kj) (.slice rqj rnj rcj) (.slice kqj knj kcj)) rfl (bj.out.below hq.out (Nat.le_refl _)).all ?_))
              refine hno.mono ?_
              clear hno hwN
              rintro e wk ⟨rfl, hb⟩
              have hq := Lib.hid (below_step hb hqN.out)
              have hqC := Lib.hid (below_step hb (below_step hbN.out.1 hqC.out))
              clear hb hbN hqN
              go_wp2_with fail
              go_meet
              case rel => exact hqC
            · have d1 : (k != k2) = false := by simpa using hkk
              by_cases hk0 : k = 0
              · have d2 : (k == 0) = true := by simpa using hk0
                obtain rfl : D = true := hD'.out.2 (fun h => h.1 (by rw [← hkda.out]; exact hk0))
                clear hkk hk0
                obtain ⟨rfl, rfl⟩ := join_arg hJ.out hG.out (hD'.out.1 rfl)
                clear hJ
                obtain ⟨wN, hwN⟩ : ∃ x, o1.alloc (.cells #[.int .i64 kj, .slice rqj rnj rcj, .slice kqj knj kcj] 25) = x := ⟨_, rfl⟩
                have hbN := Lib.hid (one_box (xs := [.int .i64 kj, .slice rqj rnj rcj, .slice kqj knj kcj]) hwN)
                have hqN := Lib.hid (below_step hbN.out.1 hq.out)
                have hno := none_any 1 o1.heap.size wN (by decide) (fun j hj => by
                  have hb := hbN.out.2.1
                  match j, hj with
                  | 0, _ => exact ⟨⟨kj, rqj, rnj, rcj, kqj, knj, kcj⟩, (CV.On.below oj.out hqN.out (Nat.le_refl _)), fun i x hx => by
                      rw [addr3]
                      match i, hx with
                      | 0, hx => cases hx; exact hb.cell 0 rfl
                      | 1, hx => cases hx; exact hb.cell 1 rfl
                      | 2, hx => cases hx; exact hb.cell 2 rfl
                      | i + 3, hx => simp at hx⟩
                  | j + 1, hj => omega)
                go_wp2_with (first
                  | (with_reducible refine wpList_load_at rfl 25 (.tmp 11) rfl Try.underlying25 rfl (sizeCont (.int .i64 kj) (.slice rqj rnj rcj) (.slice kqj knj kcj)) rfl (bj.out.below hq.out (Nat.le_refl _)).all ?_))
                refine hno.mono ?_
                clear hno hwN
                rintro e wk ⟨rfl, hb⟩
                have hq := Lib.hid (below_step hb hqN.out)
                have hqC := Lib.hid (below_step hb (below_step hbN.out.1 hqC.out))
                clear hb hbN hqN
                go_wp2_with fail
                go_meet
                case rel => exact hqC
              · have d2 : (k == 0) = false := by simpa using hk0
                obtain rfl : D = false := b_false hD'.out (fun h => h ⟨by rw [← hkda.out]; exact hk0, by rw [← hkda.out, ← hkdb.out]; exact hkk⟩)
                clear hkk hk0
                have hK : a.kind ≠ 0 ∧ a.kind = b.kind := Classical.byContradiction fun h => by have := hD'.out.2 h; cases this
                have hje : bothC a b ⟨kt, ki⟩ = joinC a b ⟨kt, ki⟩ := both_join hG.out.1 hG.out.2 (kind_in hG.out.1 hK.1) hK.2
                have hjz : sizeC (bothC a b ⟨kt, ki⟩) = sizeC a + sizeC b := by rw [hje]; exact join_size hG.out.1 hG.out.2 (kind_in hG.out.1 hK.1) hK.2
                obtain ⟨Z, hZ⟩ : ∃ Z, sizeC (bothC a b ⟨kt, ki⟩) = Z := ⟨_, rfl⟩
                have hZ8 : Z ≤ 8 := by have := hza.out; have := hzb.out; omega
                have hrs := refSize_any ⟨ko, rqo, rno, rco, kqo, kno, kco⟩ _ o1 oo.out (by rw [hZ]; omega)
                rw [hZ] at hrs
                have hJc := Lib.hid (join_kinds hJ.out hG.out hK)
                have hZe : Hid (sizeC a + sizeC b = Z) := by show _ = _; rw [← hjz, hZ]
                have hje := Lib.hid hje
                have hrs := Lib.hid hrs
                clear hJ hK hjz hZ
                go_wp2_with (first
                  | (with_reducible refine wpList_load_at rfl 25 (.tmp 20) rfl Try.underlying25 rfl xsO rfl bo.out.all ?_))
                refine hrs.out.mono ?_
                clear hrs
                rintro e wd ⟨rfl, hb⟩
                have hq := Lib.hid (below_step hb hq.out)
                have hqC := Lib.hid (below_step hb hqC.out)
                clear hb
                by_cases hz4 : 4 < Z
                · have hz5 : decide ((4 : Int) < Z) = true := decide_eq_true (by omega)
                  obtain ⟨rfl, rfl⟩ : eJ = 6 ∧ dj = zeroC := by
                    rcases hJc.out with ⟨_, h1, h2⟩ | ⟨h, _⟩
                    · exact ⟨h1, h2⟩
                    · have := hZe.out; omega
                  clear hz4 hJc hZ8
                  obtain ⟨wN, hwN⟩ : ∃ x, wd.alloc (.cells #[.int .i64 kj, .slice rqj rnj rcj, .slice kqj knj kcj] 25) = x := ⟨_, rfl⟩
                  have hbN := Lib.hid (one_box (xs := [.int .i64 kj, .slice rqj rnj rcj, .slice kqj knj kcj]) hwN)
                  have hqN := Lib.hid (below_step hbN.out.1 hq.out)
                  have hno := none_any 1 wd.heap.size wN (by decide) (fun j hj => by
                    have hb := hbN.out.2.1
                    match j, hj with
                    | 0, _ => exact ⟨⟨kj, rqj, rnj, rcj, kqj, knj, kcj⟩, (CV.On.below oj.out hqN.out (Nat.le_refl _)), fun i x hx => by
                        rw [addr3]
                        match i, hx with
                        | 0, hx => cases hx; exact hb.cell 0 rfl
                        | 1, hx => cases hx; exact hb.cell 1 rfl
                        | 2, hx => cases hx; exact hb.cell 2 rfl
                        | i + 3, hx => simp at hx⟩
                    | j + 1, hj => omega)
                  go_wp2_with (first
                    | (with_reducible refine wpList_load_at rfl 25 (.tmp 11) rfl Try.underlying25 rfl (sizeCont (.int .i64 kj) (.slice rqj rnj rcj) (.slice kqj knj kcj)) rfl (bj.out.below hq.out (Nat.le_refl _)).all ?_))
                  refine hno.mono ?_
                  clear hno hwN
                  rintro e wk ⟨rfl, hb⟩
                  have hq := Lib.hid (below_step hb hqN.out)
                  have hqC := Lib.hid (below_step hb (below_step hbN.out.1 hqC.out))
                  clear hb hbN hqN
                  go_wp2_with fail
                  go_meet
                  case rel => exact hqC
                · have hz5 : decide ((4 : Int) < Z) = false := decide_eq_false (by omega)
                  have hJc : Hid ((¬ GoodC (joinC a b ⟨kt, ki⟩) ∧ eJ = 2 ∧ dj = zeroC) ∨ (GoodC (joinC a b ⟨kt, ki⟩) ∧ eJ = 0 ∧ dj = joinC a b ⟨kt, ki⟩)) := by
                    rcases hJc.out with ⟨h, _⟩ | ⟨_, h⟩
                    · have := hZe.out; omega
                    · exact h
                  clear hz4 hZ8
                  go_wp2_with (first
                    | (with_reducible refine wpList_load_at rfl 25 (.tmp 20) rfl Try.underlying25 rfl xsO rfl (bo.out.below hqC.out (Nat.le_refl _)).all ?_))
                  refine (right_doc ko rqo rno rco kqo kno kco _ wd (CV.On.below oo.out hqC.out (Nat.le_refl _))).mono ?_
                  rintro e we ⟨gj, rfl, hgj, hb⟩
                  have hq := Lib.hid (below_step hb hq.out)
                  have hqC := Lib.hid (below_step hb hqC.out)
                  clear hb
                  rw [hje.out] at hgj
                  cases gj with
                  | false =>
                    obtain ⟨rfl, rfl⟩ : eJ = 2 ∧ dj = zeroC := by
                      rcases hJc.out with ⟨_, h1, h2⟩ | ⟨h, _⟩
                      · exact ⟨h1, h2⟩
                      · have := hgj.2 h; cases this
                    clear hgj hJc
                    obtain ⟨wN, hwN⟩ : ∃ x, we.alloc (.cells #[.int .i64 kj, .slice rqj rnj rcj, .slice kqj knj kcj] 25) = x := ⟨_, rfl⟩
                    have hbN := Lib.hid (one_box (xs := [.int .i64 kj, .slice rqj rnj rcj, .slice kqj knj kcj]) hwN)
                    have hqN := Lib.hid (below_step hbN.out.1 hq.out)
                    have hno := none_any 1 we.heap.size wN (by decide) (fun j hj => by
                      have hb := hbN.out.2.1
                      match j, hj with
                      | 0, _ => exact ⟨⟨kj, rqj, rnj, rcj, kqj, knj, kcj⟩, (CV.On.below oj.out hqN.out (Nat.le_refl _)), fun i x hx => by
                          rw [addr3]
                          match i, hx with
                          | 0, hx => cases hx; exact hb.cell 0 rfl
                          | 1, hx => cases hx; exact hb.cell 1 rfl
                          | 2, hx => cases hx; exact hb.cell 2 rfl
                          | i + 3, hx => simp at hx⟩
                      | j + 1, hj => omega)
                    go_wp2_with (first
                      | (with_reducible refine wpList_load_at rfl 25 (.tmp 11) rfl Try.underlying25 rfl (sizeCont (.int .i64 kj) (.slice rqj rnj rcj) (.slice kqj knj kcj)) rfl (bj.out.below hq.out (Nat.le_refl _)).all ?_))
                    refine hno.mono ?_
                    clear hno hwN
                    rintro e wk ⟨rfl, hb⟩
                    have hq := Lib.hid (below_step hb hqN.out)
                    have hqC := Lib.hid (below_step hb (below_step hbN.out.1 hqC.out))
                    clear hb hbN hqN
                    go_wp2_with fail
                    go_meet
                    case rel => exact hqC
                  | true =>
                    obtain ⟨rfl, rfl⟩ : eJ = 0 ∧ dj = joinC a b ⟨kt, ki⟩ := by
                      rcases hJc.out with ⟨h, _⟩ | ⟨_, h1, h2⟩
                      · exact absurd (hgj.1 rfl) h
                      · exact ⟨h1, h2⟩
                    clear hgj hJc
                    have j0 := (bj.out.below hq.out (Nat.le_refl _)).cell 0 rfl
                    have j1 := (bj.out.below hq.out (Nat.le_refl _)).cell 1 rfl
                    have j2 := (bj.out.below hq.out (Nat.le_refl _)).cell 2 rfl
                    have o0 := (bo.out.below hqC.out (Nat.le_refl _)).cell 0 rfl
                    have o1' := (bo.out.below hqC.out (Nat.le_refl _)).cell 1 rfl
                    have o2 := (bo.out.below hqC.out (Nat.le_refl _)).cell 2 rfl
                    go_wp2_with fail
                    clear j0 j1 j2 o0 o1' o2
                    have hsm := lsame_any ⟨kj, rqj, rnj, rcj, kqj, knj, kcj⟩ ⟨ko, rqo, rno, rco, kqo, kno, kco⟩ _ _ we (CV.On.below oj.out hq.out (Nat.le_refl _)) (CV.On.below oo.out hqC.out (Nat.le_refl _))
                    rw [hje.out, sameC_iff.2 rfl] at hsm
                    refine hsm.mono ?_
                    clear hsm
                    rintro e wf ⟨rfl, hb⟩
                    have hq := Lib.hid (below_step hb hq.out)
                    have hqC := Lib.hid (below_step hb hqC.out)
                    clear hb
                    go_wp2_with fail
                    go_meet
                    case rel => exact hqC
          case rest =>
            have hq := Lib.hid (below_step hcut.out hq.out)
            clear hcut hJ hD' bo oo xsO bx by' b9 bj ox oy oj
            go_wp2_with (first
              | (with_reducible refine wpList_load_at rfl 25 (.tmp 3) rfl Try.underlying25 rfl hs rfl (ba.out.below hq.out (Nat.le_refl _)).all ?_)
              | (with_reducible refine wpList_load_at rfl 25 (.tmp 4) rfl Try.underlying25 rfl hs2 rfl (bb.out.below hq.out (Nat.le_refl _)).all ?_)
              | (with_reducible refine wpList_load_at rfl 28 (.tmp 5) rfl Try.underlying28 rfl hs3 rfl (bk.out.below hq.out (Nat.le_refl _)).all ?_))
            refine (refLevel_any ⟨k, rq, rn, rc, kq, kn, kc⟩ ⟨k2, rq2, rn2, rc2, kq2, kn2, kc2⟩ a b kt ki wc (hva.out _ (below_step hq.out hdB.out)) (hvb.out _ (below_step hq.out hdB.out)) hG.out.1 hG.out.2 hko'.out).mono ?_
            rintro e wg ⟨⟨kp, rqp, rnp, rcp, kqp, knp, kcp⟩, ⟨kq, rqq, rnq, rcq, kqq, knq, kcq⟩, dp, dq, ⟨tD, iD⟩, ok, rfl, hLD, op, oq, hb⟩
            have hq := Lib.hid (below_step hb hq.out)
            have op := Lib.hid op
            have oq := Lib.hid oq
            have hLD := Lib.hid hLD
            simp only [CV.val]
            clear hb
            obtain ⟨p0, hp0⟩ : ∃ x, ((wg.alloc (.cells #[.int .i64 0, .slice none 0 0, .slice none 0 0] 25)).alloc (.cells #[.int .i64 0, .slice none 0 0, .slice none 0 0] 25)).alloc (.cells #[.int .i64 0, .int .u16 0] 28) = x := ⟨_, rfl⟩
            have xr := Lib.hid (three_rows (xs := [.int .i64 0, .slice none 0 0, .slice none 0 0]) (ys := [.int .i64 0, .slice none 0 0, .slice none 0 0]) (zs := [.int .i64 0, .int .u16 0]) hp0)
            have xq := Lib.hid xr.out.1
            have bp := Lib.hid xr.out.2.1
            have bq := Lib.hid xr.out.2.2.1
            have bs := Lib.hid xr.out.2.2.2.1
            have xsA := sizeCont (.int .i64 kp) (.slice rqp rnp rcp) (.slice kqp knp kcp)
            have xsB := sizeCont (.int .i64 kq) (.slice rqq rnq rcq) (.slice kqq knq kcq)
            have xsK := sizeKey tD iD
            clear xr
            cases ok with
            | false =>
              have hno : ¬ LvOk a b ⟨kt, ki⟩ := by
                rcases hLD.out with ⟨h, _⟩ | ⟨_, h, _⟩
                · cases h
                · exact h
              obtain ⟨rfl, rfl, rfl, hzl⟩ := level_non hL.out hG.out hno
              obtain ⟨rfl, rfl⟩ : tL = 0 ∧ iL = 0 := by have e := hzl; simp only [zK, KeyD.mk.injEq] at e; exact e
              clear hzl hL hno hLD
              go_upto_if 215 with (first
                | ((with_reducible refine wpList_store_at rfl 25 (.tmp 21) (.tmp 210) rfl (o := 0) (vs := [.int .i64 kp, .slice rqp rnp rcp, .slice kqp knp kcp]) rfl rfl bp.out xsA (Nat.le_refl _) (cont_one _ _ _ _ _ _ _) ?_)
                   intro p1 h9 hg9
                   have bp : Hid (RowV 25 p1 _ [.int .i64 kp, .slice rqp rnp rcp, .slice kqp knp kcp]) := h9
                   have bq := Lib.hid (RowV.gr bq.out hg9 (by omega))
                   have bs := Lib.hid (RowV.gr bs.out hg9 (by omega))
                   have xq := Lib.hid (Gr.below hg9 xq.out (by omega))
                   clear h9 hg9)
                | ((with_reducible refine wpList_store_at rfl 25 (.tmp 22) (.tmp 211) rfl (o := 0) (vs := [.int .i64 kq, .slice rqq rnq rcq, .slice kqq knq kcq]) rfl rfl bq.out xsB (Nat.le_refl _) (cont_one _ _ _ _ _ _ _) ?_)
                   intro p2 h9 hg9
                   have bq : Hid (RowV 25 p2 _ [.int .i64 kq, .slice rqq rnq rcq, .slice kqq knq kcq]) := h9
                   have bp := Lib.hid (RowV.gr bp.out hg9 (by omega))
                   have bs := Lib.hid (RowV.gr bs.out hg9 (by omega))
                   have xq := Lib.hid (Gr.below hg9 xq.out (by omega))
                   clear h9 hg9)
                | ((with_reducible refine wpList_store_at rfl 28 (.tmp 23) (.tmp 212) rfl (o := 0) (vs := [.int .i64 tD, .int .u16 iD]) rfl rfl bs.out xsK (Nat.le_refl _) (key_one _ _) ?_)
                   intro p3 h9 hg9
                   have bs : Hid (RowV 28 p3 _ [.int .i64 tD, .int .u16 iD]) := h9
                   have bp := Lib.hid (RowV.gr bp.out hg9 (by omega))
                   have bq := Lib.hid (RowV.gr bq.out hg9 (by omega))
                   have xq := Lib.hid (Gr.below hg9 xq.out (by omega))
                   have hq := Lib.hid (below_step xq.out hq.out)
                   clear h9 hg9))
              clear xq hp0 xsA xsB xsK bp bq bs op oq
              obtain ⟨wN, hwN⟩ : ∃ x, p3.alloc (.cells #[.int .i64 ku, .slice rqu rnu rcu, .slice kqu knu kcu, .int .i64 kv, .slice rqv rnv rcv, .slice kqv knv kcv] 25) = x := ⟨_, rfl⟩
              have hbN := Lib.hid (one_box (xs := [.int .i64 ku, .slice rqu rnu rcu, .slice kqu knu kcu, .int .i64 kv, .slice rqv rnv rcv, .slice kqv knv kcv]) hwN)
              have hqN := Lib.hid (below_step hbN.out.1 hq.out)
              have hno := none_any 2 p3.heap.size wN (by decide) (fun j hj => by
                have hb := hbN.out.2.1
                match j, hj with
                | 0, _ => exact ⟨⟨ku, rqu, rnu, rcu, kqu, knu, kcu⟩, (CV.On.below ou.out hqN.out (Nat.le_refl _)), fun i x hx => by
                    rw [addr3]
                    match i, hx with
                    | 0, hx => cases hx; exact hb.cell 0 rfl
                    | 1, hx => cases hx; exact hb.cell 1 rfl
                    | 2, hx => cases hx; exact hb.cell 2 rfl
                    | i + 3, hx => simp at hx⟩
                | 1, _ => exact ⟨⟨kv, rqv, rnv, rcv, kqv, knv, kcv⟩, (CV.On.below ov.out hqN.out (Nat.le_refl _)), fun i x hx => by
                    rw [addr3]
                    match i, hx with
                    | 0, hx => cases hx; exact hb.cell 3 rfl
                    | 1, hx => cases hx; exact hb.cell 4 rfl
                    | 2, hx => cases hx; exact hb.cell 5 rfl
                    | i + 3, hx => simp at hx⟩
                | j + 2, hj => omega)
              go_wp2_with (first
                | (with_reducible refine wpList_load_at rfl 25 (.tmp 13) rfl Try.underlying25 rfl (sizeCont (.int .i64 ku) (.slice rqu rnu rcu) (.slice kqu knu kcu)) rfl (bu.out.below hq.out (Nat.le_refl _)).all ?_)
                | (with_reducible refine wpList_load_at rfl 25 (.tmp 14) rfl Try.underlying25 rfl (sizeCont (.int .i64 kv) (.slice rqv rnv rcv) (.slice kqv knv kcv)) rfl (bv.out.below hq.out (Nat.le_refl _)).all ?_))
              refine hno.mono ?_
              clear hno hwN
              rintro e wh ⟨rfl, hb⟩
              have hq := Lib.hid (below_step hb hqN.out)
              clear hb hbN hqN
              have heq := fun u => eq_key u 0 0 0 0
              rw [show eqK ⟨0, 0⟩ ⟨0, 0⟩ = true from eqK_iff.2 rfl] at heq
              have n0 := (bn.out.below hq.out (Nat.le_refl _)).cell 0 rfl
              have n1 := (bn.out.below hq.out (Nat.le_refl _)).cell 1 rfl
              go_wp2
              go_ret
              exact ⟨rfl, below_step hq.out hdB.out⟩
            | true =>
              obtain ⟨hok, rfl, rfl, hzd⟩ : LvOk a b ⟨kt, ki⟩ ∧ dp = cutA (joinC a b ⟨kt, ki⟩) (lvAt a b) ∧ dq = cutB (joinC a b ⟨kt, ki⟩) (lvAt a b) ∧ (⟨tD, iD⟩ : KeyD) = cutS (joinC a b ⟨kt, ki⟩) (lvAt a b) := by
                rcases hLD.out with ⟨_, h1, h2, h3, h4⟩ | ⟨h, _⟩
                · exact ⟨h1, h2, h3, h4⟩
                · cases h
              obtain ⟨rfl, rfl, rfl, hzl⟩ := level_yes2 hL.out hG.out hok
              obtain ⟨rfl, rfl⟩ : tD = tL ∧ iD = iL := by have e := hzd.trans hzl.symm; simp only [KeyD.mk.injEq] at e; exact e
              clear hzd hzl hL hLD hok
              go_wp2_with (first
                | ((with_reducible refine wpList_store_at rfl 25 (.tmp 21) (.tmp 210) rfl (o := 0) (vs := [.int .i64 kp, .slice rqp rnp rcp, .slice kqp knp kcp]) rfl rfl bp.out xsA (Nat.le_refl _) (cont_one _ _ _ _ _ _ _) ?_)
                   intro p1 h9 hg9
                   have bp : Hid (RowV 25 p1 _ [.int .i64 kp, .slice rqp rnp rcp, .slice kqp knp kcp]) := h9
                   have bq := Lib.hid (RowV.gr bq.out hg9 (by omega))
                   have bs := Lib.hid (RowV.gr bs.out hg9 (by omega))
                   have xq := Lib.hid (Gr.below hg9 xq.out (by omega))
                   clear h9 hg9)
                | ((with_reducible refine wpList_store_at rfl 25 (.tmp 22) (.tmp 211) rfl (o := 0) (vs := [.int .i64 kq, .slice rqq rnq rcq, .slice kqq knq kcq]) rfl rfl bq.out xsB (Nat.le_refl _) (cont_one _ _ _ _ _ _ _) ?_)
                   intro p2 h9 hg9
                   have bq : Hid (RowV 25 p2 _ [.int .i64 kq, .slice rqq rnq rcq, .slice kqq knq kcq]) := h9
                   have bp := Lib.hid (RowV.gr bp.out hg9 (by omega))
                   have bs := Lib.hid (RowV.gr bs.out hg9 (by omega))
                   have xq := Lib.hid (Gr.below hg9 xq.out (by omega))
                   clear h9 hg9)
                | ((with_reducible refine wpList_store_at rfl 28 (.tmp 23) (.tmp 212) rfl (o := 0) (vs := [.int .i64 tD, .int .u16 iD]) rfl rfl bs.out xsK (Nat.le_refl _) (key_one _ _) ?_)
                   intro p3 h9 hg9
                   have bs : Hid (RowV 28 p3 _ [.int .i64 tD, .int .u16 iD]) := h9
                   have bp := Lib.hid (RowV.gr bp.out hg9 (by omega))
                   have bq := Lib.hid (RowV.gr bq.out hg9 (by omega))
                   have xq := Lib.hid (Gr.below hg9 xq.out (by omega))
                   have hq := Lib.hid (below_step xq.out hq.out)
                   have op := Lib.hid (CV.On.below op.out xq.out (Nat.le_refl _))
                   have oq := Lib.hid (CV.On.below oq.out xq.out (Nat.le_refl _))
                   have bp := Lib.hid bp.out.boxed
                   have bq := Lib.hid bq.out.boxed
                   have bs := Lib.hid bs.out.boxed
                   have u0 := (bu.out.below hq.out (Nat.le_refl _)).cell 0 rfl
                   have u1 := (bu.out.below hq.out (Nat.le_refl _)).cell 1 rfl
                   have u2 := (bu.out.below hq.out (Nat.le_refl _)).cell 2 rfl
                   have p0 := bp.out.cell 0 rfl
                   have p1' := bp.out.cell 1 rfl
                   have p2' := bp.out.cell 2 rfl
                   clear h9 hg9 xq))
              clear hp0 xsA xsB xsK u0 u1 u2 p0 p1' p2'
              have hsm := lsame_any ⟨ku, rqu, rnu, rcu, kqu, knu, kcu⟩ ⟨kp, rqp, rnp, rcp, kqp, knp, kcp⟩ _ _ p3 (CV.On.below ou.out hq.out (Nat.le_refl _)) op.out
              rw [sameC_iff.2 rfl] at hsm
              refine hsm.mono ?_
              rintro e wh ⟨rfl, hb⟩
              have hq := Lib.hid (below_step hb hq.out)
              have oq := Lib.hid (CV.On.below oq.out hb (Nat.le_refl _))
              have bq := Lib.hid (bq.out.below hb (Nat.le_refl _))
              have bs := Lib.hid (bs.out.below hb (Nat.le_refl _))
              clear hb hsm
              have v0 := (bv.out.below hq.out (Nat.le_refl _)).cell 0 rfl
              have v1 := (bv.out.below hq.out (Nat.le_refl _)).cell 1 rfl
              have v2 := (bv.out.below hq.out (Nat.le_refl _)).cell 2 rfl
              have q0 := bq.out.cell 0 rfl
              have q1 := bq.out.cell 1 rfl
              have q2 := bq.out.cell 2 rfl
              go_wp2_with fail
              clear v0 v1 v2 q0 q1 q2
              have hsm := lsame_any ⟨kv, rqv, rnv, rcv, kqv, knv, kcv⟩ ⟨kq, rqq, rnq, rcq, kqq, knq, kcq⟩ _ _ wh (CV.On.below ov.out hq.out (Nat.le_refl _)) oq.out
              rw [sameC_iff.2 rfl] at hsm
              refine hsm.mono ?_
              rintro e wi ⟨rfl, hb⟩
              have hq := Lib.hid (below_step hb hq.out)
              have bs := Lib.hid (bs.out.below hb (Nat.le_refl _))
              clear hb hsm
              have heq := fun u => eq_key u tD iD tD iD
              rw [show eqK ⟨tD, iD⟩ ⟨tD, iD⟩ = true from eqK_iff.2 rfl] at heq
              have n0 := (bn.out.below hq.out (Nat.le_refl _)).cell 0 rfl
              have n1 := (bn.out.below hq.out (Nat.le_refl _)).cell 1 rfl
              have s0 := bs.out.cell 0 rfl
              have s1 := bs.out.cell 1 rfl
              go_wp2
              go_ret
              exact ⟨rfl, below_step hq.out hdB.out⟩

set_option maxRecDepth 1000000 in
theorem parts_lifted (os : Os) (started : os.Started) (H : Type) (enc : TypeId × Value → H) :
    ReturnsInHanded {} Try.checked os 4 .any (Rows.pagePartsSpec.pre6 enc Try.prog Try.f4 Rows.pagePartsRow.domain false) (Rows.pagePartsSpec.post enc Try.prog Try.f4 false true false false) := by
  refine returnsInHanded_of_change (C := Try.checked) own started (by kernel_rfl) Try.func4
    (ChangeSpec.witness6 (enc := enc) (C := Try.checked) false ⟨#[], #[.agg #[.int .i64 0, .slice none 0 0, .slice none 0 0], .agg #[.int .i64 0, .slice none 0 0, .slice none 0 0], .agg #[.int .i64 0, .int .u16 0]], []⟩ 8 (by kernel_rfl) (by kernel_rfl) (by kernel_rfl) (by kernel_rfl)) ?_
  intro W base args ds gs before hval0 hW _ _
  have hval : ∀ (j : Nat) t v, Try.f4.params[j]? = some t → args[j]? = some v → Value.okWide Try.prog W .any base t v := hval0
  have hW' := hW
  obtain ⟨p, q, hA0, hV, rfl, _, _⟩ := hW
  have hA : DataW.TrodAll enc Try.prog W 0 (fun _ => true) true Try.f4.params.toList args.toList ds p := hA0
  rw [Try.params4] at hA hval
  obtain ⟨v0, v1, v2, d0, d1, d2, p0, p1, p2, rfl, rfl, rfl, h0, h1, h2⟩ := trodAll_three hA
  obtain ⟨rfl, rfl⟩ := trodVars_none hV
  obtain ⟨k0, rq0, rn0, rc0, kq0, kn0, kc0, x0, rfl, hc0⟩ := open_cont (hval 0 25 v0 rfl rfl) h0
  obtain ⟨k1, rq1, rn1, rc1, kq1, kn1, kc1, x1, rfl, hc1⟩ := open_cont (hval 1 25 v1 rfl rfl) h1
  obtain ⟨⟨kt2, ki2⟩, rfl, hk2⟩ := open_key (hval 2 28 v2 rfl rfl) h2
  refine (parts_law k0 rq0 rn0 rc0 kq0 kn0 kc0 x0 k1 rq1 rn1 rc1 kq1 kn1 kc1 x1 kt2 ki2 W hc0 hc1 hk2).mono fun e W' ⟨he, hb⟩ => ?_
  subst he
  exact ⟨_, rfl, law_post laidOut (of_decide_eq_true (by kernel_rfl)) rfl (by kernel_rfl) Try.underlying4 hW' ⟨rfl, rfl, rfl⟩ hb⟩

set_option maxRecDepth 1000000 in
theorem parts_holds : Rows.PagePartsSaid :=
  OpenClaim.holds_of_wide 4 Try.f4 rfl rfl rfl rfl rfl rfl rfl ⟨rfl, rfl, rfl, rfl, rfl⟩ rfl rfl rfl rfl rfl (by kernel_rfl) Try.func4 (by kernel_rfl)
    (of_decide_eq_true (by kernel_rfl)) (by unfold Func.isWrapper; first | (rw [if_pos (by decide +kernel)]; kernel_rfl) | (rw [if_neg (by decide +kernel)]; exact ⟨rfl, rfl⟩))
    (fun os started H enc _ => parts_lifted os started H enc)
end Go.Proofs.Ytaiepdhmlmnggaa
