/- PageLevels: for every two contents and key the law returns true, and its arguments read as they did. No condition. -/
import Derived.Test.YtaiepdhmlmnggaaPVl
import Derived.Test.YtaiepdhmlmnggaaPVe
import Derived.Test.YtaiepdhmlmnggaaPBr
namespace Go.Proofs.Ytaiepdhmlmnggaa
open Go.ChangeShapes Go.WideShapes Go.ChangeAt Go.RowKit Go.Deep Go.Joins

section
set_option maxRecDepth 100000
variable {H : Type} {enc : TypeId × Value → H} {W : World}
theorem open_key {r : Reach} {b0 : Nat} {v : Value} {d : DataW H} {p : List MemPlace} (hv : Value.okWide Try.prog W r b0 28 v) (h : DataW.Trod enc Try.prog W 0 (fun _ => true) true 28 v d p) : ∃ k : KeyD, v = .agg #[.int .i64 k.t, .int .u16 k.id] ∧ KeyOk k := by
  obtain ⟨cs, rfl, hsz⟩ := okWide_struct Try.underlying28 hv
  obtain ⟨fuel, hf⟩ := h
  obtain ⟨l⟩ := cs
  obtain ⟨k, hk, ok⟩ := key_cells hf
  have e : l = k.cells := by simpa [Value.cells] using hk
  exact ⟨k, by rw [e]; rfl, ok⟩
end
def two (a b : ContD) : Nat → ContD
  | 0 => a
  | _ => b
def twoV (a b : CV) : Nat → CV
  | 0 => a
  | _ => b
theorem pg_two (a b : ContD) : pgL (two a b) 2 = pgV a ++ pgV b := by
  show ([] ++ pgV a) ++ pgV b = _
  rw [List.nil_append]
theorem pgV_map (c : ContD) : pgV c = (c.kids.map (·.page)).map (Value.int .i64) := by
  unfold pgV
  rw [List.map_map]
  rfl
theorem pg_level {a b : ContD} {s : KeyD} {i : Nat} (hk : a.kind ≠ 1) : pgV (cutA (joinC a b s) i) ++ pgV (cutB (joinC a b s) i) = pgV a ++ pgV b := by
  have ej : joinC a b s = ⟨2, [], a.kids ++ leastAt s b.kids⟩ := if_neg hk
  have e1 : cutA ⟨2, [], a.kids ++ leastAt s b.kids⟩ i = ⟨2, [], (a.kids ++ leastAt s b.kids).take i⟩ := if_neg (by show ¬ (2 : Int) = 1; decide)
  have e2 : cutB ⟨2, [], a.kids ++ leastAt s b.kids⟩ i = ⟨2, [], leastAt zK ((a.kids ++ leastAt s b.kids).drop i)⟩ := if_neg (by show ¬ (2 : Int) = 1; decide)
  rw [pgV_map, pgV_map, pgV_map, pgV_map, ej, e1, e2]
  simp only [← List.map_append]
  congr 1
  rw [List.map_append, leastAt_page, ← List.map_append, List.take_append_drop, List.map_append, leastAt_page, ← List.map_append]
theorem rows_level {a b : ContD} {s : KeyD} {i : Nat} (hk : a.kind = 1) : (cutA (joinC a b s) i).rows ++ (cutB (joinC a b s) i).rows = a.rows ++ b.rows := by
  have ej : joinC a b s = ⟨1, a.rows ++ b.rows, []⟩ := if_pos hk
  rw [ej]
  exact List.take_append_drop _ _
theorem step_level {a b : ContD} {s : KeyD} {i : Nat} (hk : a.kind = 1) {r : RowD} (h : (cutB (joinC a b s) i).rows[0]? = some r) : cutS (joinC a b s) i = r.key := by
  have ej : joinC a b s = ⟨1, a.rows ++ b.rows, []⟩ := if_pos hk
  rw [ej] at h ⊢
  have h : ((a.rows ++ b.rows).drop i)[0]? = some r := h
  rw [List.getElem?_drop, Nat.add_zero] at h
  have e : cutS ⟨1, a.rows ++ b.rows, []⟩ i = (((a.rows ++ b.rows)[i]?).map (·.key)).getD zK := if_pos rfl
  rw [e, h]
  rfl
theorem pg_ints (L : List Value) (c : ContD) (d : ContD) (h : L = pgV c ++ pgV d) : ∀ x ∈ L, ∃ i, x = .int .i64 i := fun x hx => by
  rw [h] at hx
  rcases List.mem_append.1 hx with hx | hx <;> (obtain ⟨k, _, rfl⟩ := List.mem_map.1 hx; exact ⟨_, rfl⟩)
theorem near_far {m n L : Nat} (hm : m ≤ 4) (hn : n ≤ 4) (hl : L = m + 1 ∧ m < n ∨ L = m - 1 ∧ n < m) (h : ((m : Int) - n) * ((m : Int) - n) ≤ ((L : Int) - (m + n - L : Nat)) * ((L : Int) - (m + n - L : Nat))) : ((m : Int) - n) * ((m : Int) - n) = 1 := by
  have hd : ((L : Int) - (m + n - L : Nat)) = ((m : Int) - n) + 2 ∧ (m : Int) - n < 0 ∨ ((L : Int) - (m + n - L : Nat)) = ((m : Int) - n) - 2 ∧ 0 < (m : Int) - n := by omega
  obtain ⟨d, hdd⟩ : ∃ d, (m : Int) - n = d := ⟨_, rfl⟩
  rw [hdd] at h hd ⊢
  have hb : d = -4 ∨ d = -3 ∨ d = -2 ∨ d = -1 ∨ d = 0 ∨ d = 1 ∨ d = 2 ∨ d = 3 ∨ d = 4 := by omega
  rcases hd with ⟨e, h0⟩ | ⟨e, h0⟩ <;> rw [e] at h <;> rcases hb with rfl | rfl | rfl | rfl | rfl | rfl | rfl | rfl | rfl <;> first | rfl | omega
theorem lv_cases {a b : ContD} (h : sizeC a ≠ sizeC b) : lvAt a b = sizeC a + 1 ∧ sizeC a < sizeC b ∨ lvAt a b = sizeC a - 1 ∧ sizeC b < sizeC a := by
  unfold lvAt
  by_cases e : sizeC a < sizeC b
  · rw [if_pos e]; exact .inl ⟨rfl, e⟩
  · rw [if_neg e]; exact .inr ⟨rfl, by omega⟩
theorem join_yes {a b d : ContD} {s : KeyD} (h : JoinR a b s d 0) : GoodC a ∧ GoodC b ∧ GoodC d ∧ sizeC d = sizeC a + sizeC b := by
  rcases h with ⟨h, _⟩ | ⟨hg, ⟨_, h, _⟩ | ⟨⟨h0, hkk⟩, ⟨_, h, _⟩ | ⟨_, ⟨_, h, _⟩ | ⟨hj, _, rfl⟩⟩⟩⟩
  · exact absurd h (by decide)
  · exact absurd h (by decide)
  · exact absurd h (by decide)
  · exact absurd h (by decide)
  · exact ⟨hg.1, hg.2, hj, join_size hg.1 hg.2 (kind_in hg.1 h0) hkk⟩
theorem level_yes {a b p q : ContD} {s n : KeyD} (h : LevelR a b s p q n 0) : GoodC a ∧ GoodC b ∧ LvOk a b s ∧ p = cutA (joinC a b s) (lvAt a b) ∧ q = cutB (joinC a b s) (lvAt a b) ∧ n = cutS (joinC a b s) (lvAt a b) := by
  rcases h with ⟨h, _⟩ | ⟨hg, ⟨_, h, _⟩ | ⟨h1, _, h2, h3, h4⟩⟩
  · exact absurd h (by decide)
  · exact absurd h (by decide)
  · exact ⟨hg.1, hg.2, h1, h2, h3, h4⟩
theorem level_no {a b p q : ContD} {s n : KeyD} {x : Int} (hx : x ≠ 0) (h : LevelR a b s p q n x) : p = zeroC ∧ q = zeroC := by
  rcases h with ⟨_, _, h2, h3, _⟩ | ⟨hg, ⟨_, _, h2, h3, _⟩ | ⟨_, h, _⟩⟩
  · exact ⟨h2, h3⟩
  · exact ⟨h2, h3⟩
  · exact absurd h hx

theorem two_cells {u : World} {g : Nat} (x y : CV) (hb : Boxed u g [.int .i64 x.k, .slice x.rq x.rn x.rc, .slice x.kq x.kn x.kc, .int .i64 y.k, .slice y.rq y.rn y.rc, .slice y.kq y.kn y.kc]) : ∀ k, k < 2 → ∀ j z, ([.int .i64 (twoV x y k).k, .slice (twoV x y k).rq (twoV x y k).rn (twoV x y k).rc, .slice (twoV x y k).kq (twoV x y k).kn (twoV x y k).kc] : List Value)[j]? = some z → u.cell? ((⟨g, k * 3, none⟩ : Addr).add j) = some z := fun k hk i z hx => by
  match k, hk, hx with
  | 0, _, hx =>
    rw [show ((⟨g, 0 * 3, none⟩ : Addr).add i) = ⟨g, i, none⟩ by unfold Addr.add; split <;> simp_all]
    match i, hx with
    | 0, hx => cases hx; exact hb.cell 0 rfl
    | 1, hx => cases hx; exact hb.cell 1 rfl
    | 2, hx => cases hx; exact hb.cell 2 rfl
  | 1, _, hx =>
    rw [show ((⟨g, 1 * 3, none⟩ : Addr).add i) = ⟨g, 3 + i, none⟩ by unfold Addr.add; split <;> simp_all]
    match i, hx with
    | 0, hx => cases hx; exact hb.cell 3 rfl
    | 1, hx => cases hx; exact hb.cell 4 rfl
    | 2, hx => cases hx; exact hb.cell 5 rfl
theorem two_on {u : World} {x y : CV} {a b : ContD} (h1 : x.On u a) (h2 : y.On u b) : ∀ k, k < 2 → (twoV x y k).On u (two a b k) := fun k hk => by
  match k, hk with
  | 0, _ => exact h1
  | 1, _ => exact h2
theorem two_len {a b : ContD} (h : a.kids.length ≤ 4 ∧ b.kids.length ≤ 4) : ∀ k, k < 2 → (two a b k).kids.length ≤ 4 := fun k hk => by
  match k, hk with
  | 0, _ => exact h.1
  | 1, _ => exact h.2
theorem okx {l m : List RowD} (h1 : ∀ r ∈ l, RowOk r) (h2 : ∀ r ∈ m, RowOk r) : ∀ r ∈ l ++ m, RowOk r := fun r hr => (List.mem_append.1 hr).elim (h1 r) (h2 r)
theorem sq_small {x s : Int} (h : -8 ≤ x ∧ x ≤ 8) (e : x * x = s) : -64 ≤ s ∧ s ≤ 64 := by
  obtain ⟨h1, h2⟩ := h
  have hb : x = -8 ∨ x = -7 ∨ x = -6 ∨ x = -5 ∨ x = -4 ∨ x = -3 ∨ x = -2 ∨ x = -1 ∨ x = 0 ∨ x = 1 ∨ x = 2 ∨ x = 3 ∨ x = 4 ∨ x = 5 ∨ x = 6 ∨ x = 7 ∨ x = 8 := by omega
  rcases hb with rfl | rfl | rfl | rfl | rfl | rfl | rfl | rfl | rfl | rfl | rfl | rfl | rfl | rfl | rfl | rfl | rfl <;> omega

set_option maxRecDepth 100000 in
set_option maxHeartbeats 16000000 in
theorem levels_law (k : Int) (rq : Option Addr) (rn rc : Nat) (kq : Option Addr) (kn kc : Nat) (a : ContD) (k2 : Int) (rq2 : Option Addr) (rn2 rc2 : Nat) (kq2 : Option Addr) (kn2 kc2 : Nat) (b : ContD) (kt ki : Int) (w : World) (hona : ContOn w k rq rn rc kq kn kc a) (honb : ContOn w k2 rq2 rn2 rc2 kq2 kn2 kc2 b) (hko : KeyOk ⟨kt, ki⟩) :
    Calls Try.prog 6 #[.agg #[.int .i64 k, .slice rq rn rc, .slice kq kn kc], .agg #[.int .i64 k2, .slice rq2 rn2 rc2, .slice kq2 kn2 kc2], .agg #[.int .i64 kt, .int .u16 ki]] w (fun e w' => e = .returned (.bool true) ∧ Below w.heap.size w w') := by
  have hona : CV.On ⟨k, rq, rn, rc, kq, kn, kc⟩ w a := hona
  have honb : CV.On ⟨k2, rq2, rn2, rc2, kq2, kn2, kc2⟩ w b := honb
  have hkd : Hid (k = a.kind) := hona.kind
  have hva := Lib.hid (fun u (hu : Below w.heap.size w u) => hona.below hu (Nat.le_refl _))
  have hvb := Lib.hid (fun u (hu : Below w.heap.size w u) => honb.below hu (Nat.le_refl _))
  have hoks := Lib.hid (And.intro hona.kids.ok honb.kids.ok)
  have hko' := Lib.hid hko
  obtain ⟨W, hW⟩ : ∃ W, ((w.alloc (.cells #[.int .i64 k, .slice rq rn rc, .slice kq kn kc] 25)).alloc (.cells #[.int .i64 k2, .slice rq2 rn2 rc2, .slice kq2 kn2 kc2] 25)).alloc (.cells #[.int .i64 kt, .int .u16 ki] 28) = W := ⟨_, rfl⟩
  have hbx := Lib.hid (three_rows (xs := [.int .i64 k, .slice rq rn rc, .slice kq kn kc]) (ys := [.int .i64 k2, .slice rq2 rn2 rc2, .slice kq2 kn2 kc2]) (zs := [.int .i64 kt, .int .u16 ki]) hW)
  have hs := sizeCont (.int .i64 k) (.slice rq rn rc) (.slice kq kn kc)
  have hs2 := sizeCont (.int .i64 k2) (.slice rq2 rn2 rc2) (.slice kq2 kn2 kc2)
  have hs3 := sizeKey kt ki
  clear hona honb hko
  go_enter Try.func6, Try.ntmps6
  go_wp2_with fail
  clear hW
  refine (wakes_any W).mono ?_
  rintro e w1 ⟨rfl, hb⟩
  have hd := Lib.hid (below_step hb hbx.out.1)
  have ba := Lib.hid (hbx.out.2.1.boxed.below hb (Nat.le_refl _))
  have bb := Lib.hid (hbx.out.2.2.1.boxed.below hb (Nat.le_refl _))
  have bk := Lib.hid (hbx.out.2.2.2.1.boxed.below hb (Nat.le_refl _))
  clear hb hbx
  obtain ⟨wO, hwO⟩ : ∃ x, w1.alloc (.cells #[.int .i64 k, .slice rq rn rc, .slice kq kn kc, .int .i64 k2, .slice rq2 rn2 rc2, .slice kq2 kn2 kc2] 25) = x := ⟨_, rfl⟩
  have hbO := Lib.hid (one_box (xs := [.int .i64 k, .slice rq rn rc, .slice kq kn kc, .int .i64 k2, .slice rq2 rn2 rc2, .slice kq2 kn2 kc2]) hwO)
  have hdO := Lib.hid (below_step hbO.out.1 hd.out)
  have hov := Lib.hid (over_any 2 w1.heap.size wO (by decide) (fun j hj => ⟨twoV ⟨k, rq, rn, rc, kq, kn, kc⟩ ⟨k2, rq2, rn2, rc2, kq2, kn2, kc2⟩ j, two a b j, by
    match j, hj with
    | 0, _ => exact hva.out _ hdO.out
    | 1, _ => exact hvb.out _ hdO.out, two_cells ⟨k, rq, rn, rc, kq, kn, kc⟩ ⟨k2, rq2, rn2, rc2, kq2, kn2, kc2⟩ hbO.out.2.1 j hj⟩))
  go_wp2_with (first
    | (with_reducible refine wpList_load_at rfl 25 (.tmp 3) rfl Try.underlying25 rfl hs rfl ba.out.all ?_)
    | (with_reducible refine wpList_load_at rfl 25 (.tmp 4) rfl Try.underlying25 rfl hs2 rfl bb.out.all ?_))
  refine hov.out.mono ?_
  clear hov hwO
  rintro e w2 ⟨o, rfl, hb⟩
  have hd := Lib.hid (below_step hb hdO.out)
  have ba := Lib.hid ((ba.out.below hbO.out.1 (Nat.le_refl _)).below hb (Nat.le_refl _))
  have bb := Lib.hid ((bb.out.below hbO.out.1 (Nat.le_refl _)).below hb (Nat.le_refl _))
  have bk := Lib.hid ((bk.out.below hbO.out.1 (Nat.le_refl _)).below hb (Nat.le_refl _))
  clear hb hdO hbO
  cases o with
  | true =>
    clear hva hvb hkd hoks hko'
    go_wp2
    go_ret
    exact ⟨rfl, hd.out⟩
  | false =>
    go_wp2_with (first
      | (with_reducible refine wpList_load_at rfl 25 (.tmp 3) rfl Try.underlying25 rfl hs rfl ba.out.all ?_)
      | (with_reducible refine wpList_load_at rfl 25 (.tmp 4) rfl Try.underlying25 rfl hs2 rfl bb.out.all ?_)
      | (with_reducible refine wpList_load_at rfl 28 (.tmp 5) rfl Try.underlying28 rfl hs3 rfl bk.out.all ?_))
    refine (join_any ⟨k, rq, rn, rc, kq, kn, kc⟩ ⟨k2, rq2, rn2, rc2, kq2, kn2, kc2⟩ a b kt ki w2 (hva.out _ hd.out) (hvb.out _ hd.out) hko'.out).mono ?_
    rintro e w3 ⟨⟨kj, rqj, rnj, rcj, kqj, knj, kcj⟩, dj, ej, rfl, hJ, honj, hb⟩
    have hJ := Lib.hid hJ
    have hd := Lib.hid (below_step hb hd.out)
    simp only [CV.val]
    have ba := Lib.hid (ba.out.below hb (Nat.le_refl _))
    have bb := Lib.hid (bb.out.below hb (Nat.le_refl _))
    have bk := Lib.hid (bk.out.below hb (Nat.le_refl _))
    clear hb
    have honj := Lib.hid honj
    obtain ⟨y0, hy0⟩ : ∃ x, w3.alloc (.cells #[.int .i64 0, .slice none 0 0, .slice none 0 0] 25) = x := ⟨_, rfl⟩
    have y0r := Lib.hid (one_row (xs := [.int .i64 0, .slice none 0 0, .slice none 0 0]) hy0)
    have y0j := Lib.hid y0r.out.2.1
    have y0b := Lib.hid y0r.out.1
    clear y0r
    obtain ⟨E, hE⟩ : ∃ E : Bool, (ej == 0) = E := ⟨_, rfl⟩
    have hE' := Lib.hid hE
    go_wp2_with (first
      | ((with_reducible refine wpList_store_at rfl 25 (.tmp 7) (.tmp 27) rfl (o := 0) (vs := [.int .i64 kj, .slice rqj rnj rcj, .slice kqj knj kcj]) rfl rfl y0j.out (sizeCont (.int .i64 kj) (.slice rqj rnj rcj) (.slice kqj knj kcj)) (Nat.le_refl _) (cont_one _ _ _ _ _ _ _) ?_)
         intro y0w h9 hg9
         have bj : Hid (Boxed y0w w3.heap.size [.int .i64 kj, .slice rqj rnj rcj, .slice kqj knj kcj]) := RowV.boxed h9
         have y0q := Lib.hid (Gr.below hg9 y0b.out (Nat.le_refl _))
         have ba := Lib.hid (ba.out.below y0q.out (Nat.le_refl _))
         have bb := Lib.hid (bb.out.below y0q.out (Nat.le_refl _))
         have bk := Lib.hid (bk.out.below y0q.out (Nat.le_refl _))
         have honj := Lib.hid (CV.On.below honj.out y0q.out (Nat.le_refl _))
         have hd := Lib.hid (below_step y0q.out hd.out)
         clear h9 hg9 y0j y0b y0q))
    have hsj := sizeCont (.int .i64 kj) (.slice rqj rnj rcj) (.slice kqj knj kcj)
    have hyes : Hid (E = true → GoodC a ∧ GoodC b ∧ GoodC dj ∧ sizeC dj = sizeC a + sizeC b) := fun h => by
      rw [h] at hE'
      have h0 : ej = 0 := by have := hE'.out; simpa using this
      have h1 := hJ.out
      rw [h0] at h1
      exact join_yes h1
    obtain ⟨m, hm⟩ : ∃ m, sizeC a = m := ⟨_, rfl⟩
    obtain ⟨n, hn⟩ : ∃ n, sizeC b = n := ⟨_, rfl⟩
    have hm' := Lib.hid hm
    have hn' := Lib.hid hn
    have hza : Hid (GoodC a → ∀ u, Below w.heap.size w u → Calls Try.prog 13 #[.agg #[.int .i64 k, .slice rq rn rc, .slice kq kn kc]] u (fun e u' => e = .returned (.int .i64 (m : Int)) ∧ Below u.heap.size u u')) := fun hg u hu => pSize_any ⟨k, rq, rn, rc, kq, kn, kc⟩ a u (hva.out u hu) (m : Int) ⟨fun _ => by rw [hm'.out], fun h => absurd hg h⟩
    have hzb : Hid (GoodC b → ∀ u, Below w.heap.size w u → Calls Try.prog 13 #[.agg #[.int .i64 k2, .slice rq2 rn2 rc2, .slice kq2 kn2 kc2]] u (fun e u' => e = .returned (.int .i64 (n : Int)) ∧ Below u.heap.size u u')) := fun hg u hu => pSize_any ⟨k2, rq2, rn2, rc2, kq2, kn2, kc2⟩ b u (hvb.out u hu) (n : Int) ⟨fun _ => by rw [hn'.out], fun h => absurd hg h⟩
    have e38 : Hid (E = true → IntKind.i64.wrap ((m : Int) + n) = (m : Int) + n) := fun h => by
      obtain ⟨h1, h2, h3, h4⟩ := hyes.out h
      have := good_size h3
      have := hm'.out
      have := hn'.out
      exact IntWalk.i64_in _ (by omega)
    have hz7 : Hid (E = true → ∀ u, Below y0w.heap.size y0w u → Calls Try.prog 13 #[.agg #[.int .i64 kj, .slice rqj rnj rcj, .slice kqj knj kcj]] u (fun e u' => e = .returned (.int .i64 ((m : Int) + n)) ∧ Below u.heap.size u u')) := fun h u hu => by
      obtain ⟨h1, h2, h3, h4⟩ := hyes.out h
      exact pSize_any ⟨kj, rqj, rnj, rcj, kqj, knj, kcj⟩ dj u (CV.On.below honj.out hu (Nat.le_refl _)) ((m : Int) + n) ⟨fun _ => by rw [h4, hm'.out, hn'.out]; rfl, fun h => absurd h3 h⟩
    clear hm hn
    refine wp_region_held (S := fun u => Below y0w.heap.size y0w u) (by kernel_rfl) ?_
    change wpAnyH _ _ _ _ _ _ _ _ (World.drew y0w)
    refine wpF.held _ _ _ ?_ _ (below_drew y0w)
    refine fx (i := 0) (dst := some 29) (v := .int .i64 ej) rfl rfl (fx_read (fun u hu => by go_simp)) ?_; go_frame
    refine fx (i := 1) (dst := some 30) (v := .bool E) rfl rfl (fx_read (fun u hu => by go_simp)) ?_; go_frame
    refine fx (i := 2) (dst := some 31) (v := .bool E) rfl rfl (fx_read (fun u hu => by go_simp)) ?_; go_frame
    refine fx (i := 3) (dst := some 32) (v := (cond E (.agg #[.int .i64 kj, .slice rqj rnj rcj, .slice kqj knj kcj]) undef)) rfl rfl ((by cases E with | true => exact fx_load 25 (.tmp 7) (fun u hu => run_loadVar_at Try.underlying25 rfl hsj _ (bj.out.below hu (Nat.le_refl _)).all) | false => exact fx_off (by rfl))) ?_; go_frame
    refine fx (i := 4) (dst := some 33) (v := (cond E (.int .i64 ((m : Int) + n)) undef)) rfl rfl ((by cases E with | true => exact fx_call (fun u hu => (hz7.out rfl u hu).mono fun e z h => ⟨h.1, below_step h.2 hu⟩) | false => exact fx_off (by rfl))) ?_; go_frame
    refine fx (i := 5) (dst := some 34) (v := (cond E (.agg #[.int .i64 k, .slice rq rn rc, .slice kq kn kc]) undef)) rfl rfl ((by cases E with | true => exact fx_load 25 (.tmp 3) (fun u hu => run_loadVar_at Try.underlying25 rfl hs _ (ba.out.below hu (Nat.le_refl _)).all) | false => exact fx_off (by rfl))) ?_; go_frame
    refine fx (i := 6) (dst := some 35) (v := (cond E (.int .i64 (m : Int)) undef)) rfl rfl ((by cases E with | true => exact fx_call (fun u hu => (hza.out (hyes.out rfl).1 u (below_step hu hd.out)).mono fun e z h => ⟨h.1, below_step h.2 hu⟩) | false => exact fx_off (by rfl))) ?_; go_frame
    refine fx (i := 7) (dst := some 36) (v := (cond E (.agg #[.int .i64 k2, .slice rq2 rn2 rc2, .slice kq2 kn2 kc2]) undef)) rfl rfl ((by cases E with | true => exact fx_load 25 (.tmp 4) (fun u hu => run_loadVar_at Try.underlying25 rfl hs2 _ (bb.out.below hu (Nat.le_refl _)).all) | false => exact fx_off (by rfl))) ?_; go_frame
    refine fx (i := 8) (dst := some 37) (v := (cond E (.int .i64 (n : Int)) undef)) rfl rfl ((by cases E with | true => exact fx_call (fun u hu => (hzb.out (hyes.out rfl).2.1 u (below_step hu hd.out)).mono fun e z h => ⟨h.1, below_step h.2 hu⟩) | false => exact fx_off (by rfl))) ?_; go_frame
    refine fx (i := 9) (dst := some 38) (v := (cond E (.int .i64 ((m : Int) + n)) undef)) rfl rfl ((by cases E with | true => exact fx_read (fun u hu => by have e := e38.out rfl; go_simp) | false => exact fx_off (by rfl))) ?_; go_frame
    refine fx (i := 10) (dst := some 39) (v := (cond E (.bool false) undef)) rfl rfl ((by cases E with | true => exact fx_read (fun u hu => by go_simp) | false => exact fx_off (by rfl))) ?_; go_frame
    refine fx (i := 11) (dst := some 40) (v := .bool false) rfl rfl ((by cases E with | true => exact fx_read (fun u hu => by go_simp) | false => exact fx_read (fun u hu => by go_simp))) ?_; go_frame
    refine fx_done (fun w4 hb => ?_) (by kernel_rfl) _
    have hd := Lib.hid (below_step hb hd.out)
    have ba := Lib.hid (ba.out.below hb (Nat.le_refl _))
    have bb := Lib.hid (bb.out.below hb (Nat.le_refl _))
    have bk := Lib.hid (bk.out.below hb (Nat.le_refl _))
    clear hb bj honj hz7 hyes e38 hE hE' hJ hsj
    go_wp2_with (first
      | (with_reducible refine wpList_load_at rfl 25 (.tmp 3) rfl Try.underlying25 rfl hs rfl ba.out.all ?_)
      | (with_reducible refine wpList_load_at rfl 25 (.tmp 4) rfl Try.underlying25 rfl hs2 rfl bb.out.all ?_)
      | (with_reducible refine wpList_load_at rfl 28 (.tmp 5) rfl Try.underlying28 rfl hs3 rfl bk.out.all ?_))
    refine (level_any ⟨k, rq, rn, rc, kq, kn, kc⟩ ⟨k2, rq2, rn2, rc2, kq2, kn2, kc2⟩ a b kt ki w4 (hva.out _ hd.out) (hvb.out _ hd.out) hko'.out).mono ?_
    rintro e w5 ⟨⟨kx, rqx, rnx, rcx, kqx, knx, kcx⟩, ⟨ky, rqy, rny, rcy, kqy, kny, kcy⟩, dx, dy, ⟨nt, ni⟩, ex, rfl, hL, honx, hony, hb⟩
    have hL := Lib.hid hL
    have hd := Lib.hid (below_step hb hd.out)
    simp only [CV.val]
    have ba := Lib.hid (ba.out.below hb (Nat.le_refl _))
    have bb := Lib.hid (bb.out.below hb (Nat.le_refl _))
    have bk := Lib.hid (bk.out.below hb (Nat.le_refl _))
    clear hb
    obtain ⟨x0, hx0⟩ : ∃ x, ((w5.alloc (.cells #[.int .i64 0, .slice none 0 0, .slice none 0 0] 25)).alloc (.cells #[.int .i64 0, .slice none 0 0, .slice none 0 0] 25)).alloc (.cells #[.int .i64 0, .int .u16 0] 28) = x := ⟨_, rfl⟩
    have xr := Lib.hid (three_rows (xs := [.int .i64 0, .slice none 0 0, .slice none 0 0]) (ys := [.int .i64 0, .slice none 0 0, .slice none 0 0]) (zs := [.int .i64 0, .int .u16 0]) hx0)
    have xq := Lib.hid xr.out.1
    have xa := Lib.hid xr.out.2.1
    have xb := Lib.hid xr.out.2.2.1
    have xk := Lib.hid xr.out.2.2.2.1
    have xsA := sizeCont (.int .i64 kx) (.slice rqx rnx rcx) (.slice kqx knx kcx)
    have xsB := sizeCont (.int .i64 ky) (.slice rqy rny rcy) (.slice kqy kny kcy)
    have xsK := sizeKey nt ni
    have honx := Lib.hid honx
    have hony := Lib.hid hony
    clear xr
    by_cases hex : ex = 0
    rotate_left
    · have he1 : (ex != 0) = true := by simpa using hex
      obtain ⟨rfl, rfl⟩ := level_no hex hL.out
      clear hex hL hza hzb hm' hn'
      go_wp2_with (first
        | ((with_reducible refine wpList_store_at rfl 25 (.tmp 9) (.tmp 46) rfl (o := 0) (vs := [.int .i64 kx, .slice rqx rnx rcx, .slice kqx knx kcx]) rfl rfl xa.out xsA (Nat.le_refl _) (cont_one _ _ _ _ _ _ _) ?_)
           intro x1 h9 hg9
           have xa : Hid (RowV 25 x1 _ [.int .i64 kx, .slice rqx rnx rcx, .slice kqx knx kcx]) := h9
           have xb := Lib.hid (RowV.gr xb.out hg9 (by omega))
           have xk := Lib.hid (RowV.gr xk.out hg9 (by omega))
           have xq := Lib.hid (Gr.below hg9 xq.out (by omega))
           clear h9 hg9)
        | ((with_reducible refine wpList_store_at rfl 25 (.tmp 10) (.tmp 47) rfl (o := 0) (vs := [.int .i64 ky, .slice rqy rny rcy, .slice kqy kny kcy]) rfl rfl xb.out xsB (Nat.le_refl _) (cont_one _ _ _ _ _ _ _) ?_)
           intro x2 h9 hg9
           have xb : Hid (RowV 25 x2 _ [.int .i64 ky, .slice rqy rny rcy, .slice kqy kny kcy]) := h9
           have xa := Lib.hid (RowV.gr xa.out hg9 (by omega))
           have xk := Lib.hid (RowV.gr xk.out hg9 (by omega))
           have xq := Lib.hid (Gr.below hg9 xq.out (by omega))
           clear h9 hg9)
        | ((with_reducible refine wpList_store_at rfl 28 (.tmp 11) (.tmp 48) rfl (o := 0) (vs := [.int .i64 nt, .int .u16 ni]) rfl rfl xk.out xsK (Nat.le_refl _) (key_one _ _) ?_)
           intro x3 h9 hg9
           have xk : Hid (RowV 28 x3 _ [.int .i64 nt, .int .u16 ni]) := h9
           have xa := Lib.hid (RowV.gr xa.out hg9 (by omega))
           have xb := Lib.hid (RowV.gr xb.out hg9 (by omega))
           have xq := Lib.hid (Gr.below hg9 xq.out (by omega))
           clear h9 hg9))
      have ba := Lib.hid (ba.out.below xq.out (Nat.le_refl _))
      have bb := Lib.hid (bb.out.below xq.out (Nat.le_refl _))
      have bk := Lib.hid (bk.out.below xq.out (Nat.le_refl _))
      have honx := Lib.hid (CV.On.below honx.out xq.out (Nat.le_refl _))
      have hony := Lib.hid (CV.On.below hony.out xq.out (Nat.le_refl _))
      have xa := Lib.hid xa.out.boxed
      have xb := Lib.hid xb.out.boxed
      have xk := Lib.hid xk.out.boxed
      have hd := Lib.hid (below_step xq.out hd.out)
      clear xq
      refine wp_region_held (S := fun u => Below x3.heap.size x3 u) (by kernel_rfl) ?_
      change wpAnyH _ _ _ _ _ _ _ _ (World.drew x3)
      refine wpF.held _ _ _ ?_ _ (below_drew x3)
      refine fx (i := 0) (dst := some 52) rfl rfl (fx_load 25 (.tmp 9) (fun u hu => run_loadVar_at Try.underlying25 rfl xsA _ (xa.out.below hu (Nat.le_refl _)).all)) ?_; go_frame
      refine fx (i := 1) (dst := some 53) (v := .int .i64 0) rfl rfl (fx_call (fun u hu => (pSize_any ⟨kx, rqx, rnx, rcx, kqx, knx, kcx⟩ zeroC u (CV.On.below honx.out hu (Nat.le_refl _)) 0 ⟨fun _ => rfl, fun _ => rfl⟩).mono fun e z h => ⟨h.1, below_step h.2 hu⟩)) ?_; go_frame
      refine fx (i := 2) (dst := some 54) rfl rfl (fx_load 25 (.tmp 10) (fun u hu => run_loadVar_at Try.underlying25 rfl xsB _ (xb.out.below hu (Nat.le_refl _)).all)) ?_; go_frame
      refine fx (i := 3) (dst := some 55) (v := .int .i64 0) rfl rfl (fx_call (fun u hu => (pSize_any ⟨ky, rqy, rny, rcy, kqy, kny, kcy⟩ zeroC u (CV.On.below hony.out hu (Nat.le_refl _)) 0 ⟨fun _ => rfl, fun _ => rfl⟩).mono fun e z h => ⟨h.1, below_step h.2 hu⟩)) ?_; go_frame
      refine fx (i := 4) (dst := some 56) (v := .int .i64 0) rfl rfl (fx_read (fun u hu => by have e0 : IntKind.i64.wrap 0 = 0 := IntWalk.i64_in 0 (by omega); go_simp)) ?_; go_frame
      refine fx (i := 5) (dst := some 57) (v := .bool true) rfl rfl (fx_read (fun u hu => by go_simp)) ?_; go_frame
      refine fx (i := 6) (dst := some 6) (v := .bool true) rfl rfl (fx_read (fun u hu => by go_simp)) ?_; go_frame
      refine fx_done (fun w6 hb => ?_) (by kernel_rfl) _
      have hfin := Lib.hid (below_step hb hd.out)
      clear hb
      go_wp2
      go_ret
      exact ⟨rfl, hfin.out⟩
    · subst hex
      obtain ⟨hga, hgb, hlv, rfl, rfl, hns⟩ := level_yes hL.out
      have hfi := Lib.hid (level_fine hga hgb hlv hoks.out.1 hoks.out.2 hko'.out)
      have hll := Lib.hid (lv_cases hlv.2.1)
      have hns := Lib.hid hns
      have hkk := Lib.hid hlv.1
      have hm4 : m ≤ 4 := by rw [← hm'.out]; exact good_size hga
      have hn4 : n ≤ 4 := by rw [← hn'.out]; exact good_size hgb
      have hmn : Hid (m ≠ n) := by have := hlv.2.1; rw [hm'.out, hn'.out] at this; exact this
      have hza := Lib.hid (hza.out hga)
      have hzb := Lib.hid (hzb.out hgb)
      have hr4 : Hid (a.kids.length ≤ 4 ∧ b.kids.length ≤ 4) := by have h1 := good_size hga; have h2 := good_size hgb; unfold sizeC at h1 h2; exact ⟨by omega, by omega⟩
      have hr5 : Hid (a.rows.length ≤ 4 ∧ b.rows.length ≤ 4) := by have h1 := good_size hga; have h2 := good_size hgb; unfold sizeC at h1 h2; exact ⟨by omega, by omega⟩
      obtain ⟨px, hpx⟩ : ∃ d, cutA (joinC a b ⟨kt, ki⟩) (lvAt a b) = d := ⟨_, rfl⟩
      obtain ⟨py, hpy⟩ : ∃ d, cutB (joinC a b ⟨kt, ki⟩) (lvAt a b) = d := ⟨_, rfl⟩
      obtain ⟨L, hLL⟩ : ∃ L, lvAt a b = L := ⟨_, rfl⟩
      have hLL := Lib.hid hLL
      rw [hLL.out, hm'.out, hn'.out] at hll
      rw [hpx] at honx hfi
      rw [hpy] at hony hfi
      rw [hLL.out, hm'.out, hn'.out] at hfi
      have hpx := Lib.hid hpx
      have hpy := Lib.hid hpy
      clear hga hgb hlv hL
      have hlm : L ≤ m + n := by have := hfi.out.2.2.2.2; omega
      have hzx : Hid (∀ u, Below w5.heap.size w5 u → Calls Try.prog 13 #[.agg #[.int .i64 kx, .slice rqx rnx rcx, .slice kqx knx kcx]] u (fun e u' => e = .returned (.int .i64 (L : Int)) ∧ Below u.heap.size u u')) := fun u hu => pSize_any ⟨kx, rqx, rnx, rcx, kqx, knx, kcx⟩ px u (CV.On.below honx.out hu (Nat.le_refl _)) (L : Int) ⟨fun _ => by rw [hfi.out.2.2.1], fun h => absurd hfi.out.1 h⟩
      have hzy : Hid (∀ u, Below w5.heap.size w5 u → Calls Try.prog 13 #[.agg #[.int .i64 ky, .slice rqy rny rcy, .slice kqy kny kcy]] u (fun e u' => e = .returned (.int .i64 ((m + n - L : Nat) : Int)) ∧ Below u.heap.size u u')) := fun u hu => pSize_any ⟨ky, rqy, rny, rcy, kqy, kny, kcy⟩ py u (CV.On.below hony.out hu (Nat.le_refl _)) ((m + n - L : Nat) : Int) ⟨fun _ => by rw [hfi.out.2.2.2.1], fun h => absurd hfi.out.2.1 h⟩
      obtain ⟨R, hR⟩ : ∃ R : Nat, m + n - L = R := ⟨_, rfl⟩
      rw [hR] at hzy
      have hnf : Hid (((m : Int) - n) * ((m : Int) - n) ≤ ((L : Int) - R) * ((L : Int) - R) → ((m : Int) - n) * ((m : Int) - n) = 1) := by rw [← hR]; exact fun h => near_far hm4 hn4 hll.out h
      have hq5 : Hid (Below w5.heap.size w5 w5) := Below.refl _ _
      go_wp2_with (first
        | ((with_reducible refine wpList_store_at rfl 25 (.tmp 9) (.tmp 46) rfl (o := 0) (vs := [.int .i64 kx, .slice rqx rnx rcx, .slice kqx knx kcx]) rfl rfl xa.out xsA (Nat.le_refl _) (cont_one _ _ _ _ _ _ _) ?_)
           intro x1 h9 hg9
           have xa : Hid (RowV 25 x1 _ [.int .i64 kx, .slice rqx rnx rcx, .slice kqx knx kcx]) := h9
           have xb := Lib.hid (RowV.gr xb.out hg9 (by omega))
           have xk := Lib.hid (RowV.gr xk.out hg9 (by omega))
           have xq := Lib.hid (Gr.below hg9 xq.out (by omega))
           clear h9 hg9)
        | ((with_reducible refine wpList_store_at rfl 25 (.tmp 10) (.tmp 47) rfl (o := 0) (vs := [.int .i64 ky, .slice rqy rny rcy, .slice kqy kny kcy]) rfl rfl xb.out xsB (Nat.le_refl _) (cont_one _ _ _ _ _ _ _) ?_)
           intro x2 h9 hg9
           have xb : Hid (RowV 25 x2 _ [.int .i64 ky, .slice rqy rny rcy, .slice kqy kny kcy]) := h9
           have xa := Lib.hid (RowV.gr xa.out hg9 (by omega))
           have xk := Lib.hid (RowV.gr xk.out hg9 (by omega))
           have xq := Lib.hid (Gr.below hg9 xq.out (by omega))
           clear h9 hg9)
        | ((with_reducible refine wpList_store_at rfl 28 (.tmp 11) (.tmp 48) rfl (o := 0) (vs := [.int .i64 nt, .int .u16 ni]) rfl rfl xk.out xsK (Nat.le_refl _) (key_one _ _) ?_)
           intro x3 h9 hg9
           have xk : Hid (RowV 28 x3 _ [.int .i64 nt, .int .u16 ni]) := h9
           have xa := Lib.hid (RowV.gr xa.out hg9 (by omega))
           have xb := Lib.hid (RowV.gr xb.out hg9 (by omega))
           have xq := Lib.hid (Gr.below hg9 xq.out (by omega))
           clear h9 hg9))
      have hq5 : Hid (Below w5.heap.size w5 x3) := xq.out
      have ba := Lib.hid (ba.out.below xq.out (Nat.le_refl _))
      have bb := Lib.hid (bb.out.below xq.out (Nat.le_refl _))
      have bk := Lib.hid (bk.out.below xq.out (Nat.le_refl _))
      have honx := Lib.hid (CV.On.below honx.out xq.out (Nat.le_refl _))
      have hony := Lib.hid (CV.On.below hony.out xq.out (Nat.le_refl _))
      have xa := Lib.hid xa.out.boxed
      have xb := Lib.hid xb.out.boxed
      have xk := Lib.hid xk.out.boxed
      have hd := Lib.hid (below_step xq.out hd.out)
      clear xq
      have e62 : IntKind.i64.wrap ((L : Int) - R) = (L : Int) - R := IntWalk.i64_in _ (by omega)
      have e67 : IntKind.i64.wrap ((m : Int) - n) = (m : Int) - n := IntWalk.i64_in _ (by omega)
      refine wp_region_held (S := fun u => Below x3.heap.size x3 u) (by kernel_rfl) ?_
      change wpAnyH _ _ _ _ _ _ _ _ (World.drew x3)
      refine wpF.held _ _ _ ?_ _ (below_drew x3)
      refine fx (i := 0) (dst := some 58) rfl rfl (fx_load 25 (.tmp 9) (fun u hu => run_loadVar_at Try.underlying25 rfl xsA _ (xa.out.below hu (Nat.le_refl _)).all)) ?_; go_frame
      refine fx (i := 1) (dst := some 59) (v := .int .i64 (L : Int)) rfl rfl (fx_call (fun u hu => (hzx.out u (below_step hu hq5.out)).mono fun e z h => ⟨h.1, below_step h.2 hu⟩)) ?_; go_frame
      refine fx (i := 2) (dst := some 60) rfl rfl (fx_load 25 (.tmp 10) (fun u hu => run_loadVar_at Try.underlying25 rfl xsB _ (xb.out.below hu (Nat.le_refl _)).all)) ?_; go_frame
      refine fx (i := 3) (dst := some 61) (v := .int .i64 (R : Int)) rfl rfl (fx_call (fun u hu => (hzy.out u (below_step hu hq5.out)).mono fun e z h => ⟨h.1, below_step h.2 hu⟩)) ?_; go_frame
      refine fx (i := 4) (dst := some 62) (v := .int .i64 ((L : Int) - R)) rfl rfl (fx_read (fun u hu => by go_simp)) ?_; go_frame
      refine fx (i := 5) (dst := some 63) rfl rfl (fx_load 25 (.tmp 3) (fun u hu => run_loadVar_at Try.underlying25 rfl hs _ (ba.out.below hu (Nat.le_refl _)).all)) ?_; go_frame
      refine fx (i := 6) (dst := some 64) (v := .int .i64 (m : Int)) rfl rfl (fx_call (fun u hu => (hza.out u (below_step hu hd.out)).mono fun e z h => ⟨h.1, below_step h.2 hu⟩)) ?_; go_frame
      refine fx (i := 7) (dst := some 65) rfl rfl (fx_load 25 (.tmp 4) (fun u hu => run_loadVar_at Try.underlying25 rfl hs2 _ (bb.out.below hu (Nat.le_refl _)).all)) ?_; go_frame
      refine fx (i := 8) (dst := some 66) (v := .int .i64 (n : Int)) rfl rfl (fx_call (fun u hu => (hzb.out u (below_step hu hd.out)).mono fun e z h => ⟨h.1, below_step h.2 hu⟩)) ?_; go_frame
      refine fx (i := 9) (dst := some 67) (v := .int .i64 ((m : Int) - n)) rfl rfl (fx_read (fun u hu => by go_simp)) ?_; go_frame
      refine fx (i := 10) (dst := some 13) (v := .int .i64 ((L : Int) - R)) rfl rfl (fx_read (fun u hu => by go_simp)) ?_; go_frame
      refine fx (i := 11) (dst := some 14) (v := .int .i64 ((m : Int) - n)) rfl rfl (fx_read (fun u hu => by go_simp)) ?_; go_frame
      refine fx_done (fun w6 hb => ?_) (by kernel_rfl) _
      have hq5 := Lib.hid (below_step hb hq5.out)
      have hd := Lib.hid (below_step hb hd.out)
      have honx := Lib.hid (CV.On.below honx.out hb (Nat.le_refl _))
      have hony := Lib.hid (CV.On.below hony.out hb (Nat.le_refl _))
      have ba := Lib.hid (ba.out.below hb (Nat.le_refl _))
      have bb := Lib.hid (bb.out.below hb (Nat.le_refl _))
      have bk := Lib.hid (bk.out.below hb (Nat.le_refl _))
      have xa := Lib.hid (xa.out.below hb (Nat.le_refl _))
      have xb := Lib.hid (xb.out.below hb (Nat.le_refl _))
      have xk := Lib.hid (xk.out.below hb (Nat.le_refl _))
      clear hb e62 e67
      obtain ⟨N1, hN1⟩ : ∃ x, (L : Int) - R = x := ⟨_, rfl⟩
      obtain ⟨N2, hN2⟩ : ∃ x, (m : Int) - n = x := ⟨_, rfl⟩
      rw [hN1, hN2] at hnf
      rw [hN1, hN2]
      have hb1 : -8 ≤ N1 ∧ N1 ≤ 8 := by omega
      have hb2 : -8 ≤ N2 ∧ N2 ≤ 8 := by omega
      obtain ⟨S1, hS1⟩ : ∃ x, N1 * N1 = x := ⟨_, rfl⟩
      obtain ⟨S2, hS2⟩ : ∃ x, N2 * N2 = x := ⟨_, rfl⟩
      rw [hS1, hS2] at hnf
      have hs1 : -64 ≤ S1 ∧ S1 ≤ 64 := sq_small hb1 hS1
      have hs2' : -64 ≤ S2 ∧ S2 ≤ 64 := sq_small hb2 hS2
      have e82 : IntKind.i64.wrap (N1 * N1) = S1 := by rw [hS1]; exact IntWalk.i64_in _ (by omega)
      have e85 : IntKind.i64.wrap (N2 * N2) = S2 := by rw [hS2]; exact IntWalk.i64_in _ (by omega)
      have e72 : IntKind.i64.wrap ((L : Int) + R) = (m : Int) + n := by rw [IntWalk.i64_in _ (by omega)]; omega
      have e77 : IntKind.i64.wrap ((m : Int) + n) = (m : Int) + n := IntWalk.i64_in _ (by omega)
      obtain ⟨q, hq⟩ : ∃ q : Bool, decide (S2 ≤ S1) = q := ⟨_, rfl⟩
      have hq1 : Hid (q = true → S2 = 1) := fun h => hnf.out (by rw [h] at hq; exact of_decide_eq_true hq)
      have hca := Lib.hid (fun u (hu : Below w6.heap.size w6 u) => check_any kx rqx rnx rcx kqx knx kcx px u (CV.On.below honx.out hu (Nat.le_refl _)))
      have hcb := Lib.hid (fun u (hu : Below w6.heap.size w6 u) => check_any ky rqy rny rcy kqy kny kcy py u (CV.On.below hony.out hu (Nat.le_refl _)))
      have hc0 : Hid (∀ (c : ContD) (v : CV), GoodC c → ∀ e u u', ChkPost c u e u' → e = .returned (.int .i64 0) ∧ Below u.heap.size u u') := fun c v hg e u u' h => by
        obtain ⟨x, rfl, hx, hb⟩ := h
        rcases hx with ⟨rfl, _⟩ | ⟨_, h⟩
        · exact ⟨rfl, hb⟩
        · exact absurd hg h
      clear hN1 hN2 hS1 hS2 hb1 hb2 hs1 hs2' hnf hlm hR
      go_wp2_with fail
      refine wp_region_held (S := fun u => Below w6.heap.size w6 u) (by kernel_rfl) ?_
      change wpAnyH _ _ _ _ _ _ _ _ (World.drew w6)
      refine wpF.held _ _ _ ?_ _ (below_drew w6)
      refine fx (i := 0) (dst := some 68) rfl rfl (fx_load 25 (.tmp 9) (fun u hu => run_loadVar_at Try.underlying25 rfl xsA _ (xa.out.below hu (Nat.le_refl _)).all)) ?_; go_frame
      refine fx (i := 1) (dst := some 69) (v := .int .i64 (L : Int)) rfl rfl (fx_call (fun u hu => (hzx.out u (below_step hu hq5.out)).mono fun e z h => ⟨h.1, below_step h.2 hu⟩)) ?_; go_frame
      refine fx (i := 2) (dst := some 70) rfl rfl (fx_load 25 (.tmp 10) (fun u hu => run_loadVar_at Try.underlying25 rfl xsB _ (xb.out.below hu (Nat.le_refl _)).all)) ?_; go_frame
      refine fx (i := 3) (dst := some 71) (v := .int .i64 (R : Int)) rfl rfl (fx_call (fun u hu => (hzy.out u (below_step hu hq5.out)).mono fun e z h => ⟨h.1, below_step h.2 hu⟩)) ?_; go_frame
      refine fx (i := 4) (dst := some 72) (v := .int .i64 ((m : Int) + n)) rfl rfl (fx_read (fun u hu => by go_simp)) ?_; go_frame
      refine fx (i := 5) (dst := some 73) rfl rfl (fx_load 25 (.tmp 3) (fun u hu => run_loadVar_at Try.underlying25 rfl hs _ (ba.out.below hu (Nat.le_refl _)).all)) ?_; go_frame
      refine fx (i := 6) (dst := some 74) (v := .int .i64 (m : Int)) rfl rfl (fx_call (fun u hu => (hza.out u (below_step hu hd.out)).mono fun e z h => ⟨h.1, below_step h.2 hu⟩)) ?_; go_frame
      refine fx (i := 7) (dst := some 75) rfl rfl (fx_load 25 (.tmp 4) (fun u hu => run_loadVar_at Try.underlying25 rfl hs2 _ (bb.out.below hu (Nat.le_refl _)).all)) ?_; go_frame
      refine fx (i := 8) (dst := some 76) (v := .int .i64 (n : Int)) rfl rfl (fx_call (fun u hu => (hzb.out u (below_step hu hd.out)).mono fun e z h => ⟨h.1, below_step h.2 hu⟩)) ?_; go_frame
      refine fx (i := 9) (dst := some 77) (v := .int .i64 ((m : Int) + n)) rfl rfl (fx_read (fun u hu => by go_simp)) ?_; go_frame
      refine fx (i := 10) (dst := some 78) (v := .bool false) rfl rfl (fx_read (fun u hu => by go_simp)) ?_; go_frame
      refine fx (i := 11) (dst := some 79) (v := .bool false) rfl rfl (fx_read (fun u hu => by go_simp)) ?_; go_frame
      refine fx (i := 12) (dst := some 80) (v := .int .i64 N1) rfl rfl (fx_read (fun u hu => by go_simp)) ?_; go_frame
      refine fx (i := 13) (dst := some 81) (v := .int .i64 N1) rfl rfl (fx_read (fun u hu => by go_simp)) ?_; go_frame
      refine fx (i := 14) (dst := some 82) (v := .int .i64 S1) rfl rfl (fx_read (fun u hu => by go_simp)) ?_; go_frame
      refine fx (i := 15) (dst := some 83) (v := .int .i64 N2) rfl rfl (fx_read (fun u hu => by go_simp)) ?_; go_frame
      refine fx (i := 16) (dst := some 84) (v := .int .i64 N2) rfl rfl (fx_read (fun u hu => by go_simp)) ?_; go_frame
      refine fx (i := 17) (dst := some 85) (v := .int .i64 S2) rfl rfl (fx_read (fun u hu => by go_simp)) ?_; go_frame
      refine fx (i := 18) (dst := some 86) (v := .bool q) rfl rfl (fx_read (fun u hu => by go_simp)) ?_; go_frame
      refine fx (i := 19) (dst := some 87) (v := .bool q) rfl rfl (fx_read (fun u hu => by go_simp)) ?_; go_frame
      refine fx (i := 20) (dst := some 88) (v := (cond q (.int .i64 N2) undef)) rfl rfl ((by cases q with | true => exact fx_read (fun u hu => by go_simp) | false => exact fx_off (by rfl))) ?_; go_frame
      refine fx (i := 21) (dst := some 89) (v := (cond q (.int .i64 N2) undef)) rfl rfl ((by cases q with | true => exact fx_read (fun u hu => by go_simp) | false => exact fx_off (by rfl))) ?_; go_frame
      refine fx (i := 22) (dst := some 90) (v := (cond q (.int .i64 S2) undef)) rfl rfl ((by cases q with | true => exact fx_read (fun u hu => by go_simp) | false => exact fx_off (by rfl))) ?_; go_frame
      refine fx (i := 23) (dst := some 91) (v := (cond q (.bool false) undef)) rfl rfl ((by cases q with | true => exact fx_read (fun u hu => by have e1 := hq1.out rfl; subst e1; go_simp) | false => exact fx_off (by rfl))) ?_; go_frame
      refine fx (i := 24) (dst := some 92) (v := .bool false) rfl rfl ((by cases q with | true => exact fx_read (fun u hu => by go_simp) | false => exact fx_read (fun u hu => by go_simp))) ?_; go_frame
      refine fx (i := 25) (dst := some 93) (v := .bool false) rfl rfl (fx_read (fun u hu => by go_simp)) ?_; go_frame
      refine fx (i := 26) (dst := some 94) (v := .bool false) rfl rfl (fx_read (fun u hu => by go_simp)) ?_; go_frame
      refine fx (i := 27) (dst := some 95) rfl rfl (fx_load 25 (.tmp 9) (fun u hu => run_loadVar_at Try.underlying25 rfl xsA _ (xa.out.below hu (Nat.le_refl _)).all)) ?_; go_frame
      refine fx (i := 28) (dst := some 96) (v := .int .i64 0) rfl rfl (fx_call (fun u hu => (hca.out u hu).mono fun e z h => ⟨(hc0.out _ ⟨kx, rqx, rnx, rcx, kqx, knx, kcx⟩ hfi.out.1 e u z h).1, below_step (hc0.out _ ⟨kx, rqx, rnx, rcx, kqx, knx, kcx⟩ hfi.out.1 e u z h).2 hu⟩)) ?_; go_frame
      refine fx (i := 29) (dst := some 97) (v := .bool false) rfl rfl (fx_read (fun u hu => by go_simp)) ?_; go_frame
      refine fx (i := 30) (dst := some 98) (v := .bool false) rfl rfl (fx_read (fun u hu => by go_simp)) ?_; go_frame
      refine fx (i := 31) (dst := some 99) (v := .bool false) rfl rfl (fx_read (fun u hu => by go_simp)) ?_; go_frame
      refine fx (i := 32) (dst := some 100) rfl rfl (fx_load 25 (.tmp 10) (fun u hu => run_loadVar_at Try.underlying25 rfl xsB _ (xb.out.below hu (Nat.le_refl _)).all)) ?_; go_frame
      refine fx (i := 33) (dst := some 101) (v := .int .i64 0) rfl rfl (fx_call (fun u hu => (hcb.out u hu).mono fun e z h => ⟨(hc0.out _ ⟨ky, rqy, rny, rcy, kqy, kny, kcy⟩ hfi.out.2.1 e u z h).1, below_step (hc0.out _ ⟨ky, rqy, rny, rcy, kqy, kny, kcy⟩ hfi.out.2.1 e u z h).2 hu⟩)) ?_; go_frame
      refine fx (i := 34) (dst := some 102) (v := .bool false) rfl rfl (fx_read (fun u hu => by go_simp)) ?_; go_frame
      refine fx (i := 35) (dst := some 103) (v := .bool false) rfl rfl (fx_read (fun u hu => by go_simp)) ?_; go_frame
      refine fx_done (fun w7 hb => ?_) (by kernel_rfl) _
      have hd := Lib.hid (below_step hb hd.out)
      have honx := Lib.hid (CV.On.below honx.out hb (Nat.le_refl _))
      have hony := Lib.hid (CV.On.below hony.out hb (Nat.le_refl _))
      have ba := Lib.hid (ba.out.below hb (Nat.le_refl _))
      have bb := Lib.hid (bb.out.below hb (Nat.le_refl _))
      have bk := Lib.hid (bk.out.below hb (Nat.le_refl _))
      have xa := Lib.hid (xa.out.below hb (Nat.le_refl _))
      have xb := Lib.hid (xb.out.below hb (Nat.le_refl _))
      have xk := Lib.hid (xk.out.below hb (Nat.le_refl _))
      clear hb hq5 hca hcb hc0 hq1 hq e82 e85 e72 e77 hzx hzy hza hzb
      have k0 := ba.out.cell 0 rfl
      by_cases hk1 : k = 1
      · have hk2 : Hid (a.kind = 1) := by have := hkd.out; show a.kind = 1; omega
        have hkb : (k == 1) = true := by simpa using hk1
        clear hk1
        have hra := Lib.hid (hva.out w7 hd.out).rows
        have hrb := Lib.hid (hvb.out w7 hd.out).rows
        have hrx := Lib.hid honx.out.rows
        have hry := Lib.hid hony.out.rows
        simp only at hra hrb hrx hry
        have hsum : Hid (px.rows ++ py.rows = a.rows ++ b.rows) := by show _ = _; rw [← hpx.out, ← hpy.out, hLL.out]; exact rows_level hk2.out
        have hl : Hid (rnx ≤ 4 ∧ rny ≤ 4 ∧ rn ≤ 4 ∧ rn2 ≤ 4) := by
          have h1 := good_size hfi.out.1
          have h2 := good_size hfi.out.2.1
          have h3 := hr5.out
          have h4 := hrx.out.len
          have h5 := hry.out.len
          have h6 := hra.out.len
          have h7 := hrb.out.len
          unfold sizeC at h1 h2
          exact ⟨by omega, by omega, by omega, by omega⟩
        have hpos : 0 < rny := by
          have h5 := hry.out.len
          have h6 : sizeC py = m + n - L := hfi.out.2.2.2.1
          have h7 := hfi.out.2.2.2.2
          have h8 : py.kids = [] := (good_leaf hfi.out.2.1 (by rw [← hpy.out]; show (cutB (joinC a b ⟨kt, ki⟩) (lvAt a b)).kind = 1; unfold cutB; rw [if_pos (by rw [joinC_kind (.inl hk2.out)]; exact hk2.out)])).2
          unfold sizeC at h6
          rw [h8] at h6
          simp only [List.length_nil] at h6
          omega
        obtain ⟨A, ⟨⟨t0, i0⟩, v0, s0⟩, hqy, hx0', hok0, hc0⟩ := hry.out.at hpos
        subst hqy
        have hkey : Hid ((⟨t0, i0⟩ : KeyD) = ⟨nt, ni⟩) := by
          show _ = _
          rw [hns.out]
          refine (step_level (r := ⟨⟨t0, i0⟩, v0, s0⟩) hk2.out ?_).symm
          rw [hpy.out]
          exact hx0'
        have hc0 : Hid (∀ j x, ([.int .i64 t0, .int .u16 i0] : List Value)[j]? = some x → w7.cell? (A.add j) = some x) := fun j x hj => by
          have e : (A.add (0 * 4)).add j = A.add j := by cases A; unfold Addr.add; split <;> simp_all
          rw [← e]
          refine hc0 j x ?_
          match j, hj with
          | 0, hj => exact hj
          | 1, hj => exact hj
          | j + 2, hj => simp at hj
        have hsk := sizeKey t0 i0
        have heq := fun u => eq_key u t0 i0 nt ni
        rw [hkey.out, eqK_iff.2 rfl] at heq
        clear hx0' hok0
        go_wp2_with fail
        refine wp_region_held (S := fun u => Below w7.heap.size w7 u) (by kernel_rfl) ?_
        change wpAnyH _ _ _ _ _ _ _ _ (World.drew w7)
        have hS0 : Below w7.heap.size w7 w7.drew := below_drew w7
        generalize World.drew w7 = u0 at hS0 ⊢
        refine held_tk (i := 0) (dst := some 107) (v := .pointer (some ⟨w5.heap.size, 1, none⟩)) rfl rfl (.inl ⟨rfl, fun u hu => by go_simp⟩) hS0 ?_; go_frame
        refine held_tk (i := 1) (dst := some 108) (v := .slice rqx rnx rcx) rfl rfl (.inl ⟨rfl, fun u hu => by have c1 := (xa.out.below hu (Nat.le_refl _)).cell 1 rfl; go_simp⟩) hS0 ?_; go_frame
        refine held_tk (i := 2) (dst := some 109) (v := .pointer (some ⟨w5.heap.size + 1, 1, none⟩)) rfl rfl (.inl ⟨rfl, fun u hu => by go_simp⟩) hS0 ?_; go_frame
        refine held_tk (i := 3) (dst := some 110) (v := .slice (some A) rny rcy) rfl rfl (.inl ⟨rfl, fun u hu => by have c1 := (xb.out.below hu (Nat.le_refl _)).cell 1 rfl; go_simp⟩) hS0 ?_; go_frame
        refine held_tk (i := 6) (dst := some 113) (v := .pointer (some ⟨w.heap.size, 1, none⟩)) rfl rfl (.inl ⟨rfl, fun u hu => by go_simp⟩) hS0 ?_; go_frame
        refine held_tk (i := 7) (dst := some 114) (v := .slice rq rn rc) rfl rfl (.inl ⟨rfl, fun u hu => by have c1 := (ba.out.below hu (Nat.le_refl _)).cell 1 rfl; go_simp⟩) hS0 ?_; go_frame
        refine held_tk (i := 8) (dst := some 115) (v := .pointer (some ⟨w.heap.size + 1, 1, none⟩)) rfl rfl (.inl ⟨rfl, fun u hu => by go_simp⟩) hS0 ?_; go_frame
        refine held_tk (i := 9) (dst := some 116) (v := .slice rq2 rn2 rc2) rfl rfl (.inl ⟨rfl, fun u hu => by have c1 := (bb.out.below hu (Nat.le_refl _)).cell 1 rfl; go_simp⟩) hS0 ?_; go_frame
        have p0 : (0 : Int) < rny := by omega
        refine br_two (i := 4) (j := 10) (by kernel_rfl) ?_ ?_
        · obtain ⟨v1, hv1⟩ : ∃ x, u0.alloc (.cells #[.slice rqx rnx rcx, .slice (some A) rny rcy] 22) = x := ⟨_, rfl⟩
          have hxv1 := Lib.hid (one_box (xs := [.slice rqx rnx rcx, .slice (some A) rny rcy]) hv1)
          have hb := hxv1.out.1
          have hS1 := below_step hb hS0
          refine br_value (dst := some 111) (v := .slice (some ⟨u0.heap.size, 0, none⟩) 2 2) rfl rfl rfl (by rw [← hv1]; go_simp) ⟨hS1, ?_⟩
          go_frame
          clear hv1
          have bxb1 := Lib.hid hxv1.out.2.1
          clear hb hxv1
          refine br_two (i := 5) (j := 10) (by kernel_rfl) ?_ ?_
          · refine br_call (dst := some 112) rfl rfl rfl (by go_simp) (concatR_any rqx rnx rcx px.rows (some A) rny rcy py.rows u0.heap.size v1 (hrx.out.below hS1 (Nat.le_refl _)) (hry.out.below hS1 (Nat.le_refl _)) (by have := hl.out; omega) (by have := hl.out; omega) bxb1.out) ?_
            rintro e v2 ⟨q1, c1, rfl, ho1, hb⟩
            have hS2 := below_step hb hS1
            refine ⟨_, rfl, hS2, ?_⟩
            go_frame
            have ho1 := Lib.hid ho1
            clear hb
            obtain ⟨v3, hv3⟩ : ∃ x, v2.alloc (.cells #[.slice rq rn rc, .slice rq2 rn2 rc2] 22) = x := ⟨_, rfl⟩
            have hxv3 := Lib.hid (one_box (xs := [.slice rq rn rc, .slice rq2 rn2 rc2]) hv3)
            have hb := hxv3.out.1
            have hS3 := below_step hb hS2
            refine held_value (i := 10) (dst := some 117) (v := .slice (some ⟨v2.heap.size, 0, none⟩) 2 2) rfl rfl (by kernel_rfl) rfl (by rw [← hv3]; go_simp) hS3 ?_
            go_frame
            clear hv3
            have ho1 := Lib.hid (ho1.out.below hb)
            have bxb2 := Lib.hid hxv3.out.2.1
            clear hb hxv3
            refine held_call (i := 11) (dst := some 118) rfl rfl (by kernel_rfl) rfl (by go_simp) (concatR_any rq rn rc a.rows rq2 rn2 rc2 b.rows v2.heap.size v3 (hra.out.below hS3 (Nat.le_refl _)) (hrb.out.below hS3 (Nat.le_refl _)) (by have := hl.out; omega) (by have := hl.out; omega) bxb2.out) ?_
            rintro e v4 ⟨q2, c2, rfl, ho2, hb⟩
            have hS4 := below_step hb hS3
            refine ⟨_, rfl, hS4, ?_⟩
            go_frame
            have ho1 := Lib.hid (ho1.out.below hb)
            have ho2 := Lib.hid ho2
            clear hb
            have heL := equal_any q1 (rnx + rny) c1 _ q2 (rn + rn2) c2 _ v4 (ho1.out.reads (okx (hrx.out.ok) (hry.out.ok))) (ho2.out.reads (okx (hra.out.ok) (hrb.out.ok)))
            rw [hsum.out, sameL_iff.2 rfl] at heL
            refine held_call (i := 12) (dst := some 119) rfl rfl (by kernel_rfl) rfl (by go_simp) heL ?_
            clear heL ho1 ho2
            rintro e v5 ⟨rfl, hb⟩
            have hS5 := below_step hb hS4
            refine ⟨_, rfl, hS5, ?_⟩
            go_frame
            clear hb
            refine held_tk (i := 13) (dst := some 120) (v := .bool true) rfl rfl (.inl ⟨rfl, fun u hu => by go_simp⟩) hS5 ?_; go_frame
            refine held_tk (i := 14) (dst := some 121) (v := .pointer (some ⟨w5.heap.size + 1, 1, none⟩)) rfl rfl (.inl ⟨rfl, fun u hu => by go_simp⟩) hS5 ?_; go_frame
            refine held_tk (i := 15) (dst := some 122) (v := .slice (some A) rny rcy) rfl rfl (.inl ⟨rfl, fun u hu => by have c1 := (xb.out.below hu (Nat.le_refl _)).cell 1 rfl; go_simp⟩) hS5 ?_; go_frame
            refine held_tk (i := 16) (dst := some 123) (v := .pointer (some A)) rfl rfl (.inl ⟨rfl, fun u hu => by have z0 := add_zero A; go_simp⟩) hS5 ?_; go_frame
            refine held_tk (i := 17) (dst := some 124) (v := .pointer (some A)) rfl rfl (.inl ⟨rfl, fun u hu => by go_simp⟩) hS5 ?_; go_frame
            refine held_tk (i := 18) (dst := some 125) rfl rfl (y_load_agg 28 (.tmp 124) rfl rfl rfl (fun u hu => run_loadVar_at Try.underlying28 rfl hsk _ (fun j x hj => cell_keeps hu (Nat.le_refl _) (hc0.out j x hj)))) hS5 ?_; go_frame
            refine held_tk (i := 19) (dst := some 126) rfl rfl (y_load_agg 28 (.tmp 11) rfl rfl rfl (fun u hu => run_loadVar_at Try.underlying28 rfl xsK _ ((xk.out.below hu (Nat.le_refl _)).all))) hS5 ?_; go_frame
            refine held_tk (i := 20) (dst := some 127) (v := .bool true) rfl rfl (.inl ⟨rfl, fun u hu => by go_simp⟩) hS5 ?_; go_frame
            refine held_tk (i := 21) (dst := some 128) (v := .bool true) rfl rfl (.inl ⟨rfl, fun u hu => by go_simp⟩) hS5 ?_; go_frame
            refine held_tk (i := 22) (dst := some 6) (v := .bool true) rfl rfl (.inl ⟨rfl, fun u hu => by go_simp⟩) hS5 ?_; go_frame
            refine wpAnyH_done (by kernel_rfl) ?_ _
            have hfin := Lib.hid (below_step hS5 hd.out)
            clear hS5
            go_wp2
            go_ret
            exact ⟨rfl, hfin.out⟩
          · obtain ⟨v2, hv2⟩ : ∃ x, v1.alloc (.cells #[.slice rq rn rc, .slice rq2 rn2 rc2] 22) = x := ⟨_, rfl⟩
            have hxv2 := Lib.hid (one_box (xs := [.slice rq rn rc, .slice rq2 rn2 rc2]) hv2)
            have hb := hxv2.out.1
            have hS2 := below_step hb hS1
            refine br_value (dst := some 117) (v := .slice (some ⟨v1.heap.size, 0, none⟩) 2 2) rfl rfl rfl (by rw [← hv2]; go_simp) ⟨hS2, ?_⟩
            go_frame
            clear hv2
            have bxb1 := Lib.hid (bxb1.out.below hb (Nat.le_refl _))
            have bxb2 := Lib.hid hxv2.out.2.1
            clear hb hxv2
            refine held_call (i := 5) (dst := some 112) rfl rfl (by kernel_rfl) rfl (by go_simp) (concatR_any rqx rnx rcx px.rows (some A) rny rcy py.rows u0.heap.size v2 (hrx.out.below hS2 (Nat.le_refl _)) (hry.out.below hS2 (Nat.le_refl _)) (by have := hl.out; omega) (by have := hl.out; omega) bxb1.out) ?_
            rintro e v3 ⟨q1, c1, rfl, ho1, hb⟩
            have hS3 := below_step hb hS2
            refine ⟨_, rfl, hS3, ?_⟩
            go_frame
            have bxb2 := Lib.hid (bxb2.out.below hb (Nat.le_refl _))
            have ho1 := Lib.hid ho1
            clear hb
            refine held_call (i := 11) (dst := some 118) rfl rfl (by kernel_rfl) rfl (by go_simp) (concatR_any rq rn rc a.rows rq2 rn2 rc2 b.rows v1.heap.size v3 (hra.out.below hS3 (Nat.le_refl _)) (hrb.out.below hS3 (Nat.le_refl _)) (by have := hl.out; omega) (by have := hl.out; omega) bxb2.out) ?_
            rintro e v4 ⟨q2, c2, rfl, ho2, hb⟩
            have hS4 := below_step hb hS3
            refine ⟨_, rfl, hS4, ?_⟩
            go_frame
            have ho1 := Lib.hid (ho1.out.below hb)
            have ho2 := Lib.hid ho2
            clear hb
            have heL := equal_any q1 (rnx + rny) c1 _ q2 (rn + rn2) c2 _ v4 (ho1.out.reads (okx (hrx.out.ok) (hry.out.ok))) (ho2.out.reads (okx (hra.out.ok) (hrb.out.ok)))
            rw [hsum.out, sameL_iff.2 rfl] at heL
            refine held_call (i := 12) (dst := some 119) rfl rfl (by kernel_rfl) rfl (by go_simp) heL ?_
            clear heL ho1 ho2
            rintro e v5 ⟨rfl, hb⟩
            have hS5 := below_step hb hS4
            refine ⟨_, rfl, hS5, ?_⟩
            go_frame
            clear hb
            refine held_tk (i := 13) (dst := some 120) (v := .bool true) rfl rfl (.inl ⟨rfl, fun u hu => by go_simp⟩) hS5 ?_; go_frame
            refine held_tk (i := 14) (dst := some 121) (v := .pointer (some ⟨w5.heap.size + 1, 1, none⟩)) rfl rfl (.inl ⟨rfl, fun u hu => by go_simp⟩) hS5 ?_; go_frame
            refine held_tk (i := 15) (dst := some 122) (v := .slice (some A) rny rcy) rfl rfl (.inl ⟨rfl, fun u hu => by have c1 := (xb.out.below hu (Nat.le_refl _)).cell 1 rfl; go_simp⟩) hS5 ?_; go_frame
            refine held_tk (i := 16) (dst := some 123) (v := .pointer (some A)) rfl rfl (.inl ⟨rfl, fun u hu => by have z0 := add_zero A; go_simp⟩) hS5 ?_; go_frame
            refine held_tk (i := 17) (dst := some 124) (v := .pointer (some A)) rfl rfl (.inl ⟨rfl, fun u hu => by go_simp⟩) hS5 ?_; go_frame
            refine held_tk (i := 18) (dst := some 125) rfl rfl (y_load_agg 28 (.tmp 124) rfl rfl rfl (fun u hu => run_loadVar_at Try.underlying28 rfl hsk _ (fun j x hj => cell_keeps hu (Nat.le_refl _) (hc0.out j x hj)))) hS5 ?_; go_frame
            refine held_tk (i := 19) (dst := some 126) rfl rfl (y_load_agg 28 (.tmp 11) rfl rfl rfl (fun u hu => run_loadVar_at Try.underlying28 rfl xsK _ ((xk.out.below hu (Nat.le_refl _)).all))) hS5 ?_; go_frame
            refine held_tk (i := 20) (dst := some 127) (v := .bool true) rfl rfl (.inl ⟨rfl, fun u hu => by go_simp⟩) hS5 ?_; go_frame
            refine held_tk (i := 21) (dst := some 128) (v := .bool true) rfl rfl (.inl ⟨rfl, fun u hu => by go_simp⟩) hS5 ?_; go_frame
            refine held_tk (i := 22) (dst := some 6) (v := .bool true) rfl rfl (.inl ⟨rfl, fun u hu => by go_simp⟩) hS5 ?_; go_frame
            refine wpAnyH_done (by kernel_rfl) ?_ _
            have hfin := Lib.hid (below_step hS5 hd.out)
            clear hS5
            go_wp2
            go_ret
            exact ⟨rfl, hfin.out⟩
        · obtain ⟨v1, hv1⟩ : ∃ x, u0.alloc (.cells #[.slice rq rn rc, .slice rq2 rn2 rc2] 22) = x := ⟨_, rfl⟩
          have hxv1 := Lib.hid (one_box (xs := [.slice rq rn rc, .slice rq2 rn2 rc2]) hv1)
          have hb := hxv1.out.1
          have hS1 := below_step hb hS0
          refine br_value (dst := some 117) (v := .slice (some ⟨u0.heap.size, 0, none⟩) 2 2) rfl rfl rfl (by rw [← hv1]; go_simp) ⟨hS1, ?_⟩
          go_frame
          clear hv1
          have bxb2 := Lib.hid hxv1.out.2.1
          clear hb hxv1
          obtain ⟨v2, hv2⟩ : ∃ x, v1.alloc (.cells #[.slice rqx rnx rcx, .slice (some A) rny rcy] 22) = x := ⟨_, rfl⟩
          have hxv2 := Lib.hid (one_box (xs := [.slice rqx rnx rcx, .slice (some A) rny rcy]) hv2)
          have hb := hxv2.out.1
          have hS2 := below_step hb hS1
          refine held_value (i := 4) (dst := some 111) (v := .slice (some ⟨v1.heap.size, 0, none⟩) 2 2) rfl rfl (by kernel_rfl) rfl (by rw [← hv2]; go_simp) hS2 ?_
          go_frame
          clear hv2
          have bxb2 := Lib.hid (bxb2.out.below hb (Nat.le_refl _))
          have bxb1 := Lib.hid hxv2.out.2.1
          clear hb hxv2
          refine held_call (i := 5) (dst := some 112) rfl rfl (by kernel_rfl) rfl (by go_simp) (concatR_any rqx rnx rcx px.rows (some A) rny rcy py.rows v1.heap.size v2 (hrx.out.below hS2 (Nat.le_refl _)) (hry.out.below hS2 (Nat.le_refl _)) (by have := hl.out; omega) (by have := hl.out; omega) bxb1.out) ?_
          rintro e v3 ⟨q1, c1, rfl, ho1, hb⟩
          have hS3 := below_step hb hS2
          refine ⟨_, rfl, hS3, ?_⟩
          go_frame
          have bxb2 := Lib.hid (bxb2.out.below hb (Nat.le_refl _))
          have ho1 := Lib.hid ho1
          clear hb
          refine held_call (i := 11) (dst := some 118) rfl rfl (by kernel_rfl) rfl (by go_simp) (concatR_any rq rn rc a.rows rq2 rn2 rc2 b.rows u0.heap.size v3 (hra.out.below hS3 (Nat.le_refl _)) (hrb.out.below hS3 (Nat.le_refl _)) (by have := hl.out; omega) (by have := hl.out; omega) bxb2.out) ?_
          rintro e v4 ⟨q2, c2, rfl, ho2, hb⟩
          have hS4 := below_step hb hS3
          refine ⟨_, rfl, hS4, ?_⟩
          go_frame
          have ho1 := Lib.hid (ho1.out.below hb)
          have ho2 := Lib.hid ho2
          clear hb
          have heL := equal_any q1 (rnx + rny) c1 _ q2 (rn + rn2) c2 _ v4 (ho1.out.reads (okx (hrx.out.ok) (hry.out.ok))) (ho2.out.reads (okx (hra.out.ok) (hrb.out.ok)))
          rw [hsum.out, sameL_iff.2 rfl] at heL
          refine held_call (i := 12) (dst := some 119) rfl rfl (by kernel_rfl) rfl (by go_simp) heL ?_
          clear heL ho1 ho2
          rintro e v5 ⟨rfl, hb⟩
          have hS5 := below_step hb hS4
          refine ⟨_, rfl, hS5, ?_⟩
          go_frame
          clear hb
          refine held_tk (i := 13) (dst := some 120) (v := .bool true) rfl rfl (.inl ⟨rfl, fun u hu => by go_simp⟩) hS5 ?_; go_frame
          refine held_tk (i := 14) (dst := some 121) (v := .pointer (some ⟨w5.heap.size + 1, 1, none⟩)) rfl rfl (.inl ⟨rfl, fun u hu => by go_simp⟩) hS5 ?_; go_frame
          refine held_tk (i := 15) (dst := some 122) (v := .slice (some A) rny rcy) rfl rfl (.inl ⟨rfl, fun u hu => by have c1 := (xb.out.below hu (Nat.le_refl _)).cell 1 rfl; go_simp⟩) hS5 ?_; go_frame
          refine held_tk (i := 16) (dst := some 123) (v := .pointer (some A)) rfl rfl (.inl ⟨rfl, fun u hu => by have z0 := add_zero A; go_simp⟩) hS5 ?_; go_frame
          refine held_tk (i := 17) (dst := some 124) (v := .pointer (some A)) rfl rfl (.inl ⟨rfl, fun u hu => by go_simp⟩) hS5 ?_; go_frame
          refine held_tk (i := 18) (dst := some 125) rfl rfl (y_load_agg 28 (.tmp 124) rfl rfl rfl (fun u hu => run_loadVar_at Try.underlying28 rfl hsk _ (fun j x hj => cell_keeps hu (Nat.le_refl _) (hc0.out j x hj)))) hS5 ?_; go_frame
          refine held_tk (i := 19) (dst := some 126) rfl rfl (y_load_agg 28 (.tmp 11) rfl rfl rfl (fun u hu => run_loadVar_at Try.underlying28 rfl xsK _ ((xk.out.below hu (Nat.le_refl _)).all))) hS5 ?_; go_frame
          refine held_tk (i := 20) (dst := some 127) (v := .bool true) rfl rfl (.inl ⟨rfl, fun u hu => by go_simp⟩) hS5 ?_; go_frame
          refine held_tk (i := 21) (dst := some 128) (v := .bool true) rfl rfl (.inl ⟨rfl, fun u hu => by go_simp⟩) hS5 ?_; go_frame
          refine held_tk (i := 22) (dst := some 6) (v := .bool true) rfl rfl (.inl ⟨rfl, fun u hu => by go_simp⟩) hS5 ?_; go_frame
          refine wpAnyH_done (by kernel_rfl) ?_ _
          have hfin := Lib.hid (below_step hS5 hd.out)
          clear hS5
          go_wp2
          go_ret
          exact ⟨rfl, hfin.out⟩
      · have hk2 : Hid (a.kind ≠ 1) := by have := hkd.out; show a.kind ≠ 1; omega
        have hkb : (k == 1) = false := by simpa using hk1
        clear hk1
        have hpg : Hid (pgL (two px py) 2 = pgL (two a b) 2) := by show _ = _; rw [pg_two, pg_two, ← hpx.out, ← hpy.out]; exact pg_level hk2.out
        have h4x : Hid (px.kids.length ≤ 4 ∧ py.kids.length ≤ 4) := by
          have h1 := good_size hfi.out.1
          have h2 := good_size hfi.out.2.1
          unfold sizeC at h1 h2
          exact ⟨by omega, by omega⟩
        have hln : Hid ((pgL (two a b) 2).length ≤ 1000) := by
          show _ ≤ _
          rw [pg_two, List.length_append]
          unfold pgV
          rw [List.length_map, List.length_map]
          have := hr4.out
          omega
        go_wp2_with fail
        refine wp_region_held (S := fun u => Below w7.heap.size w7 u) (by kernel_rfl) ?_
        change wpAnyH _ _ _ _ _ _ _ _ (World.drew w7)
        have hS0 : Below w7.heap.size w7 w7.drew := below_drew w7
        generalize World.drew w7 = u0 at hS0 ⊢
        refine held_tk (i := 0) (dst := some 129) (v := .func (.func 36) #[] #[]) rfl rfl (.inl ⟨rfl, fun u hu => by go_simp⟩) hS0 ?_; go_frame
        refine held_tk (i := 1) (dst := some 130) rfl rfl (y_load_agg 25 (.tmp 9) rfl rfl rfl (fun u hu => run_loadVar_at Try.underlying25 rfl xsA _ ((xa.out.below hu (Nat.le_refl _)).all))) hS0 ?_; go_frame
        refine held_tk (i := 2) (dst := some 131) rfl rfl (y_load_agg 25 (.tmp 10) rfl rfl rfl (fun u hu => run_loadVar_at Try.underlying25 rfl xsB _ ((xb.out.below hu (Nat.le_refl _)).all))) hS0 ?_; go_frame
        refine held_tk (i := 5) (dst := some 134) (v := .func (.func 36) #[] #[]) rfl rfl (.inl ⟨rfl, fun u hu => by go_simp⟩) hS0 ?_; go_frame
        refine held_tk (i := 6) (dst := some 135) rfl rfl (y_load_agg 25 (.tmp 3) rfl rfl rfl (fun u hu => run_loadVar_at Try.underlying25 rfl hs _ ((ba.out.below hu (Nat.le_refl _)).all))) hS0 ?_; go_frame
        refine held_tk (i := 7) (dst := some 136) rfl rfl (y_load_agg 25 (.tmp 4) rfl rfl rfl (fun u hu => run_loadVar_at Try.underlying25 rfl hs2 _ ((bb.out.below hu (Nat.le_refl _)).all))) hS0 ?_; go_frame
        refine br_two (i := 3) (j := 8) (by kernel_rfl) ?_ ?_
        · obtain ⟨v1, hv1⟩ : ∃ x, u0.alloc (.cells #[.int .i64 kx, .slice rqx rnx rcx, .slice kqx knx kcx, .int .i64 ky, .slice rqy rny rcy, .slice kqy kny kcy] 25) = x := ⟨_, rfl⟩
          have hxv1 := Lib.hid (one_box (xs := [.int .i64 kx, .slice rqx rnx rcx, .slice kqx knx kcx, .int .i64 ky, .slice rqy rny rcy, .slice kqy kny kcy]) hv1)
          have hb := hxv1.out.1
          have hS1 := below_step hb hS0
          refine br_value (dst := some 132) (v := .slice (some ⟨u0.heap.size, 0, none⟩) 2 2) rfl rfl rfl (by rw [← hv1]; go_simp) ⟨hS1, ?_⟩
          go_frame
          clear hv1
          have bxb1 := Lib.hid hxv1.out.2.1
          clear hb hxv1
          refine br_two (i := 4) (j := 8) (by kernel_rfl) ?_ ?_
          · refine br_call (dst := some 133) rfl rfl rfl (by go_simp) (pages_any (two px py) (twoV ⟨kx, rqx, rnx, rcx, kqx, knx, kcx⟩ ⟨ky, rqy, rny, rcy, kqy, kny, kcy⟩) u0.heap.size v1 (two_on (CV.On.below honx.out hS1 (Nat.le_refl _)) (CV.On.below hony.out hS1 (Nat.le_refl _))) (two_len h4x.out) (two_cells ⟨kx, rqx, rnx, rcx, kqx, knx, kcx⟩ ⟨ky, rqy, rny, rcy, kqy, kny, kcy⟩ bxb1.out)) ?_
            rintro e v2 ⟨q1, n1, c1, rfl, hn1, ho1, hb⟩
            have hS2 := below_step hb hS1
            refine ⟨_, rfl, hS2, ?_⟩
            go_frame
            have ho1 := Lib.hid ho1
            clear hb
            obtain ⟨v3, hv3⟩ : ∃ x, v2.alloc (.cells #[.int .i64 k, .slice rq rn rc, .slice kq kn kc, .int .i64 k2, .slice rq2 rn2 rc2, .slice kq2 kn2 kc2] 25) = x := ⟨_, rfl⟩
            have hxv3 := Lib.hid (one_box (xs := [.int .i64 k, .slice rq rn rc, .slice kq kn kc, .int .i64 k2, .slice rq2 rn2 rc2, .slice kq2 kn2 kc2]) hv3)
            have hb := hxv3.out.1
            have hS3 := below_step hb hS2
            refine held_value (i := 8) (dst := some 137) (v := .slice (some ⟨v2.heap.size, 0, none⟩) 2 2) rfl rfl (by kernel_rfl) rfl (by rw [← hv3]; go_simp) hS3 ?_
            go_frame
            clear hv3
            have ho1 := Lib.hid (ho1.out.below hb)
            have bxb2 := Lib.hid hxv3.out.2.1
            clear hb hxv3
            refine held_call (i := 9) (dst := some 138) rfl rfl (by kernel_rfl) rfl (by go_simp) (pages_any (two a b) (twoV ⟨k, rq, rn, rc, kq, kn, kc⟩ ⟨k2, rq2, rn2, rc2, kq2, kn2, kc2⟩) v2.heap.size v3 (two_on (hva.out _ (below_step hS3 hd.out)) (hvb.out _ (below_step hS3 hd.out))) (two_len hr4.out) (two_cells ⟨k, rq, rn, rc, kq, kn, kc⟩ ⟨k2, rq2, rn2, rc2, kq2, kn2, kc2⟩ bxb2.out)) ?_
            rintro e v4 ⟨q2, n2, c2, rfl, hn2, ho2, hb⟩
            have hS4 := below_step hb hS3
            refine ⟨_, rfl, hS4, ?_⟩
            go_frame
            have ho1 := Lib.hid (ho1.out.below hb)
            have ho2 := Lib.hid ho2
            clear hb
            rw [hpg.out] at hn1 ho1
            obtain rfl : n1 = n2 := by rw [hn1, hn2]
            refine held_call (i := 10) (dst := some 139) rfl rfl (by kernel_rfl) rfl (by go_simp) (eqPg_any q1 q2 n1 c1 c2 _ _ _ (pg_ints _ a b (pg_two a b)) (by have := hln.out; omega) v4 ho1.out ho2.out) ?_
            clear ho1 ho2 hn1 hn2
            rintro e v5 ⟨rfl, hb⟩
            have hS5 := below_step hb hS4
            refine ⟨_, rfl, hS5, ?_⟩
            go_frame
            clear hb
            refine held_tk (i := 11) (dst := some 6) (v := .bool true) rfl rfl (.inl ⟨rfl, fun u hu => by go_simp⟩) hS5 ?_; go_frame
            refine wpAnyH_done (by kernel_rfl) ?_ _
            have hfin := Lib.hid (below_step hS5 hd.out)
            clear hS5
            go_wp2
            go_ret
            exact ⟨rfl, hfin.out⟩
          · obtain ⟨v2, hv2⟩ : ∃ x, v1.alloc (.cells #[.int .i64 k, .slice rq rn rc, .slice kq kn kc, .int .i64 k2, .slice rq2 rn2 rc2, .slice kq2 kn2 kc2] 25) = x := ⟨_, rfl⟩
            have hxv2 := Lib.hid (one_box (xs := [.int .i64 k, .slice rq rn rc, .slice kq kn kc, .int .i64 k2, .slice rq2 rn2 rc2, .slice kq2 kn2 kc2]) hv2)
            have hb := hxv2.out.1
            have hS2 := below_step hb hS1
            refine br_value (dst := some 137) (v := .slice (some ⟨v1.heap.size, 0, none⟩) 2 2) rfl rfl rfl (by rw [← hv2]; go_simp) ⟨hS2, ?_⟩
            go_frame
            clear hv2
            have bxb1 := Lib.hid (bxb1.out.below hb (Nat.le_refl _))
            have bxb2 := Lib.hid hxv2.out.2.1
            clear hb hxv2
            refine held_call (i := 4) (dst := some 133) rfl rfl (by kernel_rfl) rfl (by go_simp) (pages_any (two px py) (twoV ⟨kx, rqx, rnx, rcx, kqx, knx, kcx⟩ ⟨ky, rqy, rny, rcy, kqy, kny, kcy⟩) u0.heap.size v2 (two_on (CV.On.below honx.out hS2 (Nat.le_refl _)) (CV.On.below hony.out hS2 (Nat.le_refl _))) (two_len h4x.out) (two_cells ⟨kx, rqx, rnx, rcx, kqx, knx, kcx⟩ ⟨ky, rqy, rny, rcy, kqy, kny, kcy⟩ bxb1.out)) ?_
            rintro e v3 ⟨q1, n1, c1, rfl, hn1, ho1, hb⟩
            have hS3 := below_step hb hS2
            refine ⟨_, rfl, hS3, ?_⟩
            go_frame
            have bxb2 := Lib.hid (bxb2.out.below hb (Nat.le_refl _))
            have ho1 := Lib.hid ho1
            clear hb
            refine held_call (i := 9) (dst := some 138) rfl rfl (by kernel_rfl) rfl (by go_simp) (pages_any (two a b) (twoV ⟨k, rq, rn, rc, kq, kn, kc⟩ ⟨k2, rq2, rn2, rc2, kq2, kn2, kc2⟩) v1.heap.size v3 (two_on (hva.out _ (below_step hS3 hd.out)) (hvb.out _ (below_step hS3 hd.out))) (two_len hr4.out) (two_cells ⟨k, rq, rn, rc, kq, kn, kc⟩ ⟨k2, rq2, rn2, rc2, kq2, kn2, kc2⟩ bxb2.out)) ?_
            rintro e v4 ⟨q2, n2, c2, rfl, hn2, ho2, hb⟩
            have hS4 := below_step hb hS3
            refine ⟨_, rfl, hS4, ?_⟩
            go_frame
            have ho1 := Lib.hid (ho1.out.below hb)
            have ho2 := Lib.hid ho2
            clear hb
            rw [hpg.out] at hn1 ho1
            obtain rfl : n1 = n2 := by rw [hn1, hn2]
            refine held_call (i := 10) (dst := some 139) rfl rfl (by kernel_rfl) rfl (by go_simp) (eqPg_any q1 q2 n1 c1 c2 _ _ _ (pg_ints _ a b (pg_two a b)) (by have := hln.out; omega) v4 ho1.out ho2.out) ?_
            clear ho1 ho2 hn1 hn2
            rintro e v5 ⟨rfl, hb⟩
            have hS5 := below_step hb hS4
            refine ⟨_, rfl, hS5, ?_⟩
            go_frame
            clear hb
            refine held_tk (i := 11) (dst := some 6) (v := .bool true) rfl rfl (.inl ⟨rfl, fun u hu => by go_simp⟩) hS5 ?_; go_frame
            refine wpAnyH_done (by kernel_rfl) ?_ _
            have hfin := Lib.hid (below_step hS5 hd.out)
            clear hS5
            go_wp2
            go_ret
            exact ⟨rfl, hfin.out⟩
        · obtain ⟨v1, hv1⟩ : ∃ x, u0.alloc (.cells #[.int .i64 k, .slice rq rn rc, .slice kq kn kc, .int .i64 k2, .slice rq2 rn2 rc2, .slice kq2 kn2 kc2] 25) = x := ⟨_, rfl⟩
          have hxv1 := Lib.hid (one_box (xs := [.int .i64 k, .slice rq rn rc, .slice kq kn kc, .int .i64 k2, .slice rq2 rn2 rc2, .slice kq2 kn2 kc2]) hv1)
          have hb := hxv1.out.1
          have hS1 := below_step hb hS0
          refine br_value (dst := some 137) (v := .slice (some ⟨u0.heap.size, 0, none⟩) 2 2) rfl rfl rfl (by rw [← hv1]; go_simp) ⟨hS1, ?_⟩
          go_frame
          clear hv1
          have bxb2 := Lib.hid hxv1.out.2.1
          clear hb hxv1
          obtain ⟨v2, hv2⟩ : ∃ x, v1.alloc (.cells #[.int .i64 kx, .slice rqx rnx rcx, .slice kqx knx kcx, .int .i64 ky, .slice rqy rny rcy, .slice kqy kny kcy] 25) = x := ⟨_, rfl⟩
          have hxv2 := Lib.hid (one_box (xs := [.int .i64 kx, .slice rqx rnx rcx, .slice kqx knx kcx, .int .i64 ky, .slice rqy rny rcy, .slice kqy kny kcy]) hv2)
          have hb := hxv2.out.1
          have hS2 := below_step hb hS1
          refine held_value (i := 3) (dst := some 132) (v := .slice (some ⟨v1.heap.size, 0, none⟩) 2 2) rfl rfl (by kernel_rfl) rfl (by rw [← hv2]; go_simp) hS2 ?_
          go_frame
          clear hv2
          have bxb2 := Lib.hid (bxb2.out.below hb (Nat.le_refl _))
          have bxb1 := Lib.hid hxv2.out.2.1
          clear hb hxv2
          refine held_call (i := 4) (dst := some 133) rfl rfl (by kernel_rfl) rfl (by go_simp) (pages_any (two px py) (twoV ⟨kx, rqx, rnx, rcx, kqx, knx, kcx⟩ ⟨ky, rqy, rny, rcy, kqy, kny, kcy⟩) v1.heap.size v2 (two_on (CV.On.below honx.out hS2 (Nat.le_refl _)) (CV.On.below hony.out hS2 (Nat.le_refl _))) (two_len h4x.out) (two_cells ⟨kx, rqx, rnx, rcx, kqx, knx, kcx⟩ ⟨ky, rqy, rny, rcy, kqy, kny, kcy⟩ bxb1.out)) ?_
          rintro e v3 ⟨q1, n1, c1, rfl, hn1, ho1, hb⟩
          have hS3 := below_step hb hS2
          refine ⟨_, rfl, hS3, ?_⟩
          go_frame
          have bxb2 := Lib.hid (bxb2.out.below hb (Nat.le_refl _))
          have ho1 := Lib.hid ho1
          clear hb
          refine held_call (i := 9) (dst := some 138) rfl rfl (by kernel_rfl) rfl (by go_simp) (pages_any (two a b) (twoV ⟨k, rq, rn, rc, kq, kn, kc⟩ ⟨k2, rq2, rn2, rc2, kq2, kn2, kc2⟩) u0.heap.size v3 (two_on (hva.out _ (below_step hS3 hd.out)) (hvb.out _ (below_step hS3 hd.out))) (two_len hr4.out) (two_cells ⟨k, rq, rn, rc, kq, kn, kc⟩ ⟨k2, rq2, rn2, rc2, kq2, kn2, kc2⟩ bxb2.out)) ?_
          rintro e v4 ⟨q2, n2, c2, rfl, hn2, ho2, hb⟩
          have hS4 := below_step hb hS3
          refine ⟨_, rfl, hS4, ?_⟩
          go_frame
          have ho1 := Lib.hid (ho1.out.below hb)
          have ho2 := Lib.hid ho2
          clear hb
          rw [hpg.out] at hn1 ho1
          obtain rfl : n1 = n2 := by rw [hn1, hn2]
          refine held_call (i := 10) (dst := some 139) rfl rfl (by kernel_rfl) rfl (by go_simp) (eqPg_any q1 q2 n1 c1 c2 _ _ _ (pg_ints _ a b (pg_two a b)) (by have := hln.out; omega) v4 ho1.out ho2.out) ?_
          clear ho1 ho2 hn1 hn2
          rintro e v5 ⟨rfl, hb⟩
          have hS5 := below_step hb hS4
          refine ⟨_, rfl, hS5, ?_⟩
          go_frame
          clear hb
          refine held_tk (i := 11) (dst := some 6) (v := .bool true) rfl rfl (.inl ⟨rfl, fun u hu => by go_simp⟩) hS5 ?_; go_frame
          refine wpAnyH_done (by kernel_rfl) ?_ _
          have hfin := Lib.hid (below_step hS5 hd.out)
          clear hS5
          go_wp2
          go_ret
          exact ⟨rfl, hfin.out⟩

set_option maxRecDepth 1000000 in
theorem levels_lifted (os : Os) (started : os.Started) (H : Type) (enc : TypeId × Value → H) :
    ReturnsInHanded {} Try.checked os 6 .any (Rows.pageLevelsSpec.pre6 enc Try.prog Try.f6 Rows.pageLevelsRow.domain false) (Rows.pageLevelsSpec.post enc Try.prog Try.f6 false true false false) := by
  refine returnsInHanded_of_change (C := Try.checked) own started (by kernel_rfl) Try.func6
    (ChangeSpec.witness6 (enc := enc) (C := Try.checked) false ⟨#[], #[.agg #[.int .i64 0, .slice none 0 0, .slice none 0 0], .agg #[.int .i64 0, .slice none 0 0, .slice none 0 0], .agg #[.int .i64 0, .int .u16 0]], []⟩ 8 (by kernel_rfl) (by kernel_rfl) (by kernel_rfl) (by kernel_rfl)) ?_
  intro W base args ds gs before hval0 hW _ _
  have hval : ∀ (j : Nat) t v, Try.f6.params[j]? = some t → args[j]? = some v → Value.okWide Try.prog W .any base t v := hval0
  have hW' := hW
  obtain ⟨p, q, hA0, hV, rfl, _, _⟩ := hW
  have hA : DataW.TrodAll enc Try.prog W 0 (fun _ => true) true Try.f6.params.toList args.toList ds p := hA0
  rw [Try.params6] at hA hval
  obtain ⟨v0, v1, v2, d0, d1, d2, p0, p1, p2, rfl, rfl, rfl, h0, h1, h2⟩ := trodAll_three hA
  obtain ⟨rfl, rfl⟩ := trodVars_none hV
  obtain ⟨k0, rq0, rn0, rc0, kq0, kn0, kc0, x0, rfl, hc0⟩ := open_cont (hval 0 25 v0 rfl rfl) h0
  obtain ⟨k1, rq1, rn1, rc1, kq1, kn1, kc1, x1, rfl, hc1⟩ := open_cont (hval 1 25 v1 rfl rfl) h1
  obtain ⟨⟨kt2, ki2⟩, rfl, hk2⟩ := open_key (hval 2 28 v2 rfl rfl) h2
  refine (levels_law k0 rq0 rn0 rc0 kq0 kn0 kc0 x0 k1 rq1 rn1 rc1 kq1 kn1 kc1 x1 kt2 ki2 W hc0 hc1 hk2).mono fun e W' ⟨he, hb⟩ => ?_
  subst he
  exact ⟨_, rfl, law_post laidOut (of_decide_eq_true (by kernel_rfl)) rfl (by kernel_rfl) Try.underlying4 hW' ⟨rfl, rfl, rfl⟩ hb⟩

set_option maxRecDepth 1000000 in
theorem levels_holds : Rows.PageLevelsSaid :=
  OpenClaim.holds_of_wide 6 Try.f6 rfl rfl rfl rfl rfl rfl rfl ⟨rfl, rfl, rfl, rfl, rfl⟩ rfl rfl rfl rfl rfl (by kernel_rfl) Try.func6 (by kernel_rfl)
    (of_decide_eq_true (by kernel_rfl)) (by unfold Func.isWrapper; first | (rw [if_pos (by decide +kernel)]; kernel_rfl) | (rw [if_neg (by decide +kernel)]; exact ⟨rfl, rfl⟩))
    (fun os started H enc _ => levels_lifted os started H enc)
end Go.Proofs.Ytaiepdhmlmnggaa
