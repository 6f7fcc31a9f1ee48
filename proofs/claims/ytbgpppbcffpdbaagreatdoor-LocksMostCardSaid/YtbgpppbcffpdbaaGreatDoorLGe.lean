/- Locks: granted, lined up, and copies of the locks. -/
import Derived.Test.YtbgpppbcffpdbaaGreatDoorLGd
import Derived.Test.YtbgpppbcffpdbaaGreatDoorLGc
import Derived.Test.YtbgpppbcffpdbaaGreatDoorHeld
import Derived.Test.YtbgpppbcffpdbaaGreatDoorLGb

/-! grant of locks. -/
namespace Go.Proofs.YtbgpppbcffpdbaaGreatDoor
open Go.RowKit

theorem add_blk (a : Addr) (n : Nat) : (a.add n).block = a.block := by unfold Addr.add; split <;> rfl
def grantH (hs : List HoldD) (h : HoldD) : List HoldD := if fndH hs h.x = true then hs.set (posH hs h.x) h else hs.take (posH hs h.x) ++ h :: hs.drop (posH hs h.x)

theorem set_self {α : Type} {l : List α} {i : Nat} {a : α} (h : l[i]? = some a) : l.set i a = l := by
  apply List.ext_getElem?
  intro k
  rw [List.getElem?_set]
  by_cases hk : i = k
  · subst hk; rw [if_pos rfl, h]; exact if_pos (List.getElem?_eq_some_iff.1 h).1
  · rw [if_neg hk]

/-- a thing written in a list of the call's own -/
theorem own_setH {w' : World} {lo g n c p : Nat} {cur : List Value} {hs : List HoldD} {h : HoldD} (hB : lo ≤ g) (hn : n ≤ c) (hc : c ≤ maxLen) (hs' : cur.length = c * 2) (ht : cur.take (n * 2) = cellsL hs) (hl : hs.length = n) (hp : p < n) (hr : RowV 45 w' g (splice cur (p * 2) (Cel.cells h))) : OwnS 45 w' lo (.slice (some ⟨g, 0, none⟩) n c) (hs.set p h) :=
  mkH hB hr hn hc (by unfold splice; simp only [List.length_append, List.length_take, List.length_drop]; rw [show (Cel.cells h).length = 2 from rfl]; omega) (setH hl hp hs' hn ht) (by rw [List.length_set]; exact hl)

section
variable {P : Program} {ops : Array Oper} {Q : Exit → Act → World → Prop} {md : Region.Mode} {S : World → Prop}
/-- two operations that give a value, in either order -/
theorem held_vv {i j : Nat} {oi oj : Oper} {di dj : Option Tmp} (hdi : oi.dst = di) (hdj : oj.dst = dj) {v u : Value} {fuel : Nat} {listed : Array Bool} {a : Act} {w w1 w2 w3 : World}
    (hi : ops[i]? = some oi) (hj : ops[j]? = some oj) (hr : Region.ready md ops listed = [i, j])
    (hri : Region.ready md ops (listed.setIfInBounds i true) = [j]) (hrj : Region.ready md ops (listed.setIfInBounds j true) = [i])
    (hl : (listed.setIfInBounds j true).setIfInBounds i true = (listed.setIfInBounds i true).setIfInBounds j true)
    (hwi : Region.wanted oi (yielded ops a.tmps) = true) (hwj : Region.wanted oj (yielded ops a.tmps) = true)
    (hwi2 : Region.wanted oi (yielded ops (a.put dj u).tmps) = true) (hwj2 : Region.wanted oj (yielded ops (a.put di v).tmps) = true)
    (hcomm : (a.put dj u).put di v = (a.put di v).put dj u)
    (h1 : (execOp a.eval oi).run P w = .ok (.value v) w1) (hS1 : S w1) (h12 : (execOp (a.put di v).eval oj).run P w1 = .ok (.value u) w2)
    (h3 : (execOp a.eval oj).run P w = .ok (.value u) w3) (hS3 : S w3) (h32 : (execOp (a.put dj u).eval oi).run P w3 = .ok (.value v) w2) (hS2 : S w2)
    (h : wpAnyH P md ops Q S fuel ((listed.setIfInBounds i true).setIfInBounds j true) ((a.put di v).put dj u) w2) :
    wpAnyH P md ops Q S (fuel + 2) listed a w := by
  refine wpAnyH_all hr (by simp) (fun k hk => ?_)
  rcases List.mem_cons.1 hk with rfl | hk
  · unfold wpOp
    simp only [hi, hwi, if_true]
    refine .inl ?_
    unfold Oper.wp
    rw [h1, Oper.upon_value]
    subst hdi
    exact ⟨hS1, held_value hdj hj hri hwj2 h12 hS2 h⟩
  · rw [List.mem_singleton.1 hk]
    unfold wpOp
    simp only [hj, hwj, if_true]
    refine .inl ?_
    unfold Oper.wp
    rw [h3, Oper.upon_value]
    subst hdj
    refine ⟨hS3, held_value hdi hi hrj hwi2 h32 hS2 ?_⟩
    rw [hl, hcomm]
    exact h
theorem run_store_op {o : Oper} {a : Act} {w w' : World} {ty : TypeId} {x y : Operand} {ad : Addr} {v : Value} (ho : o.op = .store ty x y) (hx : a.eval x = .pointer (some ad)) (hy : a.eval y = v) (h : (storeVar ty ad v).run P w = .ok () w') : (execOp a.eval o).run P w = .ok .skip w' := by
  subst hy
  unfold execOp
  simp only [ho, hx, Instr.storeAt, Instr.sureAddr, Sem.run_bind, Sem.run_pure, Result.andThen_ok, h]
end

def GrPost (lo G n c i : Nat) (V : List QV) (v : QV) (l : List HoldD) (w : World) (e : Ending) (w' : World) : Prop := ∃ q' m' c', e = .returned (.tuple #[]) ∧ OwnS 43 w' lo (.slice (some ⟨G, 0, none⟩) n c) (V.set i { v with hq := q', hn := m', hc := c' }) ∧ OwnS 45 w' lo (.slice q' m' c') l ∧ NewAt v.hq q' w.heap.size ∧ Fr (InQ G v.hq) w w'

set_option maxRecDepth 100000 in
set_option maxHeartbeats 2000000 in
theorem grant_any (lo G n c i o : Nat) (ho : o = i * 5) (V : List QV) (v : QV) (hs : List HoldD) (wx wm wh : Int) (w : World) (hlo : lo ≤ w.heap.size) (hrow : OwnS 43 w lo (.slice (some ⟨G, 0, none⟩) n c) V) (hv : V[i]? = some v)
    (hown : OwnS 45 w lo (.slice v.hq v.hn v.hc) hs) (hne : ∀ a, v.hq = some a → a.block ≠ G) (hso : SortH hs) (hsm : v.hn ≤ 1000000) :
    Calls Tryz.prog 70 #[.pointer (some ⟨G, o, none⟩), .agg #[.int .i64 wx, .int .i64 wm, .int .i64 wh]] w (GrPost lo G n c i V v (grantH hs ⟨wx, wm⟩) w) := by
  obtain ⟨W0, hW0⟩ : ∃ W, w.alloc (.cells #[.int .i64 wx, .int .i64 wm, .int .i64 wh] 47) = W := ⟨_, rfl⟩
  have hb0 := Lib.hid (one_box (xs := [.int .i64 wx, .int .i64 wm, .int .i64 wh]) hW0)
  have e0 := hb0.out.2.1.cell 0 rfl
  have e1 := hb0.out.2.1.cell 1 rfl
  obtain ⟨W, hW⟩ : ∃ W, W0.alloc (.cells #[.int .i64 wx, .int .i64 wm] 45) = W := ⟨_, rfl⟩
  have hb1 := Lib.hid (one_box (xs := [.int .i64 wx, .int .i64 wm]) hW)
  have hbW := Lib.hid (below_step hb1.out.1 hb0.out.1)
  have hsz0 : Hid (W0.heap.size = w.heap.size + 1) := hb0.out.2.2
  have hszW : Hid (W.heap.size = w.heap.size + 2) := by show _ = _; have h1 := hb1.out.2.2; have h2 := hsz0.out; omega
  have hrowW := Lib.hid (hrow.below hbW.out)
  have hownW := Lib.hid (hown.below hbW.out)
  have hfar := Lib.hid hown.far
  have hlt := Lib.hid (row_lt hrow)
  obtain ⟨⟨t, k, id⟩, q, m, d, wq, wn, wc⟩ := v
  have hvl := Lib.hid hv
  replace hownW : Hid (OwnS 45 W lo (.slice q m d) hs) := hownW
  replace hne : ∀ a, q = some a → a.block ≠ G := hne
  replace hsm : m ≤ 1000000 := hsm
  replace hfar : Hid (∀ a, q = some a → lo ≤ a.block ∧ a.block < w.heap.size) := hfar
  have hne' := Lib.hid hne
  have ho' := Lib.hid ho
  have hc := Lib.hid (fun u (hu : Below W.heap.size W u) => holder_any t k id q m d wq wn wc hs wx u (hownW.out.reads.below hu (Nat.le_refl _)) hso hsm)
  have c0 := row_cell hrowW.out hv 0 rfl
  have c1 := row_cell hrowW.out hv 1 rfl
  have c2 := row_cell hrowW.out hv 2 rfl
  have c3 := row_cell hrowW.out hv 3 rfl
  have c4 := row_cell hrowW.out hv 4 rfl
  rw [Nat.add_zero] at c0
  rw [← ho] at c0 c1 c2 c3 c4
  have x0 : W.cell? ⟨w.heap.size, 0, none⟩ = some (.int .i64 wx) := cell_kept hb1.out.1 (Nat.le_refl _) e0
  have hpl := Lib.hid (posH_le hs wx)
  have hml : Hid (m = hs.length) := hown.len
  obtain ⟨p, hp⟩ : ∃ p, posH hs wx = p := ⟨_, rfl⟩
  obtain ⟨b, hb⟩ : ∃ b, fndH hs wx = b := ⟨_, rfl⟩
  have hgr : Hid (grantH hs ⟨wx, wm⟩ = if b = true then hs.set p ⟨wx, wm⟩ else hs.take p ++ ⟨wx, wm⟩ :: hs.drop p) := by show _ = _; unfold grantH; rw [hp, hb]
  have hpf : Hid (b = true → p < m) := fun e => by
    subst e
    unfold fndH at hb
    rw [hp] at hb
    cases hx : hs[p]? with
    | none => rw [hx] at hb; cases hb
    | some y => have h1 := (List.getElem?_eq_some_iff.1 hx).1; have h2 := hml.out; omega
  rw [hp, hb] at hc
  rw [hp] at hpl
  have hsm' := Lib.hid hsm
  have hst5 := sizeQue (.int .i64 t) (.bool k) (.int .u16 id) (.slice q m d) (.slice wq wn wc)
  clear hrow hown hne hv ho hp hb hso hsm
  have hreg : Hid (∀ u2, Below W.heap.size W u2 → OwnS 43 u2 lo (.slice (some ⟨G, 0, none⟩) n c) V ∧ OwnS 45 u2 lo (.slice q m d) hs ∧ Below w.heap.size w u2) := fun u2 h => ⟨hrowW.out.below h, hownW.out.below h, below_step h hbW.out⟩
  cases b with
  | true =>
    have hpm := hpf.out rfl
    cases q with
    | none => exact absurd (OwnS.nil_cap hownW.out).1 (by clear hsz0 hszW; omega)
    | some a =>
    obtain ⟨g, cur, rfl, hBg, hrg, hnc, hcm, hs', ht⟩ := openedH hownW.out
    have hrg' := Lib.hid hrg
    have hfin : Hid (∀ w', RowV 45 w' g (splice cur (p * 2) (Cel.cells (⟨wx, wm⟩ : HoldD))) → OwnS 45 w' lo (.slice (some ⟨g, 0, none⟩) m d) (hs.set p ⟨wx, wm⟩)) := fun w' h => own_setH hBg hnc hcm hs' ht hml.out.symm hpm h
    have hfit : p * 2 + [Value.int .i64 wx, Value.int .i64 wm].length ≤ cur.length := by show p * 2 + 2 ≤ cur.length; omega
    have hgG : Hid (g ≠ G) := hne'.out _ rfl
    have hp0 : (0 : Int) ≤ p := by omega
    have hp1 : (p : Int) < m := by omega
    have hs2 := sizeHold (.int .i64 wx) (.int .i64 wm)
    have hone : ∀ x ∈ ([.int .i64 wx, .int .i64 wm] : List Value), x.oneCell' = true := Cel.one (⟨wx, wm⟩ : HoldD)
    clear hrg hs' ht hBg hnc hcm
    go_enter Tryz.func70, Tryz.ntmps70
    go_wp2
    go_region_held3 (fun u => u.cell? ⟨G, o, none⟩ = some (.int .i64 t) ∧ u.cell? ⟨G, o + 1, none⟩ = some (.bool k) ∧ u.cell? ⟨G, o + 2, none⟩ = some (.int .u16 id) ∧ u.cell? ⟨G, o + 3, none⟩ = some (.slice (some ⟨g, 0, none⟩) m d) ∧ u.cell? ⟨G, o + 4, none⟩ = some (.slice wq wn wc) ∧ u.cell? ⟨w.heap.size, 0, none⟩ = some (.int .i64 wx) ∧ Below W.heap.size W u)
      (first | exact ⟨c0, c1, c2, c3, c4, x0, below_drew _⟩ | (go_split_ands; exact ⟨by assumption, by assumption, by assumption, by assumption, by assumption, by assumption, by assumption⟩) | exact hkeep2.out)
      (first
        | (go_at_call 91; refine (hc.out _ (below_drew _)).mono ?_; rintro e6 u2 ⟨rfl, hbu⟩; have hkeep2 := Lib.hid (keep7 hbu (by assumption)); clear hbu))
    have hS9 : Hid (Below W.heap.size W u2) := by
      show Below _ _ _
      go_split_ands; assumption
    obtain ⟨hr2, ho2, hb2⟩ := hreg.out u2 hS9.out
    have k3 : u2.cell? ⟨G, o + 3, none⟩ = some (.slice (some ⟨g, 0, none⟩) m d) := by rw [ho'.out]; exact row_cell hr2 hvl.out 3 rfl
    have y0 := (hb1.out.2.1.below hS9.out (Nat.le_refl _)).cell 0 rfl
    have y1 := (hb1.out.2.1.below hS9.out (Nat.le_refl _)).cell 1 rfl
    have hr2' := Lib.hid hr2
    have ho2' := Lib.hid ho2
    have hb2' := Lib.hid hb2
    clear c0 c1 c2 c3 c4 x0 e0 e1 hr2 ho2 hb2 hc hst5
    have rg : Hid (RowV 45 u2.drew g cur) := (hrg'.out.below hS9.out).block (w' := u2.drew) rfl
    go_wp2
    go_still_tail 7, (by kernel_rfl)
    change wpList _ _ _ _ _ (World.drew u2)
    clear k3 y0 y1
    go_wp2_with (first
      | ((with_reducible refine wpList_store_at rfl 45 (.tmp 28) (.tmp 27) rfl (o := p * 2) (vs := [.int .i64 wx, .int .i64 wm]) rfl rfl rg.out hs2 hfit hone ?_)
         intro w9 h9 hg9
         have h9' := Lib.hid h9
         have hg9' := Lib.hid hg9
         clear h9 hg9))
    go_end0
    have hf1 : Fr (InQ G (some ⟨g, 0, none⟩)) u2.drew w9 := Fr.of_grown hg9'.out (fun k e => .inr ⟨_, rfl, by cases e; rfl⟩)
    have hf2 : Fr (InQ G (some ⟨g, 0, none⟩)) w w9 := Fr.trans (Fr.of_below (hb2'.out.trans ((below_drew' u2).mono hb2'.out.size))) hf1
    refine ⟨some ⟨g, 0, none⟩, m, d, rfl, ?_, ?_, fun a' ha' => .inl ⟨_, ha', rfl⟩, hf2⟩
    · rw [set_self hvl.out]
      exact (hr2'.out.below (below_drew' u2)).kept (fun a e => by cases e; exact hg9'.out.block _ (by have := (hr2'.out.far _ rfl).2; exact this) (fun e => hgG.out (by cases e; rfl)))
    · rw [hgr.out, if_pos (by trivial)]
      exact hfin.out w9 h9'.out
  | false =>
    go_enter Tryz.func70, Tryz.ntmps70
    go_wp2
    go_region_held3 (fun u => u.cell? ⟨G, o, none⟩ = some (.int .i64 t) ∧ u.cell? ⟨G, o + 1, none⟩ = some (.bool k) ∧ u.cell? ⟨G, o + 2, none⟩ = some (.int .u16 id) ∧ u.cell? ⟨G, o + 3, none⟩ = some (.slice q m d) ∧ u.cell? ⟨G, o + 4, none⟩ = some (.slice wq wn wc) ∧ u.cell? ⟨w.heap.size, 0, none⟩ = some (.int .i64 wx) ∧ Below W.heap.size W u)
      (first | exact ⟨c0, c1, c2, c3, c4, x0, below_drew _⟩ | (go_split_ands; exact ⟨by assumption, by assumption, by assumption, by assumption, by assumption, by assumption, by assumption⟩) | exact hkeep2.out)
      (first
        | (go_at_call 91; refine (hc.out _ (below_drew _)).mono ?_; rintro e6 u2 ⟨rfl, hbu⟩; have hkeep2 := Lib.hid (keep7 hbu (by assumption)); clear hbu))
    have hS9 : Hid (Below W.heap.size W u2) := by
      show Below _ _ _
      go_split_ands; assumption
    obtain ⟨hr2, ho2, hb2⟩ := hreg.out u2 hS9.out
    have k3 : u2.cell? ⟨G, o + 3, none⟩ = some (.slice q m d) := by rw [ho'.out]; exact row_cell hr2 hvl.out 3 rfl
    have ne3 := World.new_ne u2.drew ⟨G, o + 3, none⟩ k3
    have y0 := (hb1.out.2.1.below hS9.out (Nat.le_refl _)).cell 0 rfl
    have y1 := (hb1.out.2.1.below hS9.out (Nat.le_refl _)).cell 1 rfl
    have hr2' := Lib.hid hr2
    have ho2' := Lib.hid ho2
    have hb2' := Lib.hid hb2
    clear c0 c1 c2 c3 c4 x0 e0 e1 hr2 ho2 hb2 hc hst5
    have hbU : Hid (Below u2.heap.size u2 u2.drew) := below_drew' u2
    have hins : Hid (∀ W3, u2.drew.alloc (.cells #[.int .i64 wx, .int .i64 wm] 45) = W3 → Below u2.heap.size u2 W3 ∧ Calls Tryz.prog 114 #[.slice q m d, .int .i64 p, .slice (some ⟨u2.heap.size, 0, none⟩) 1 1] W3 (fun e w' => ∃ q' c', e = .returned (.slice q' (m + 1) c') ∧ OwnS 45 w' lo (.slice q' (m + 1) c') (hs.take p ++ ⟨wx, wm⟩ :: hs.drop p) ∧ W3.grownBy w' (q.map (·.block)) ∧ NewAt q q' W3.heap.size)) := by
      refine Lib.hid ?_
      intro W3 hW3
      have hb3 := one_box (xs := [.int .i64 wx, .int .i64 wm]) hW3
      have hb3' : Below u2.heap.size u2 W3 := hbU.out.trans (hb3.1.mono hbU.out.size)
      have hrv : RowV 45 W3 u2.drew.heap.size (Cel.cells (⟨wx, wm⟩ : HoldD)) := RowV.made' hW3
      exact ⟨hb3', insert_finH lo q m d p u2.drew.heap.size hs ⟨wx, wm⟩ W3 (by have h1 := hpl.out; have h2 := hml.out; omega) hsm'.out (by have h1 := hb3'.size; have h2 := hb2'.out.size; omega) (ho2'.out.below hb3') hrv (fun a ha => by have h1 := (ho2'.out.far a ha).2; have h2 := hbU.out.size; omega)⟩
    have harm : Hid (∀ W3 w4, Below u2.heap.size u2 W3 → W3.grownBy w4 (q.map (·.block)) → Fr (InQ G q) W3 w4 ∧ OwnS 43 w4 lo (.slice (some ⟨G, 0, none⟩) n c) V) := by
      refine Lib.hid ?_
      intro W3 w4 hb3 h2
      refine ⟨Fr.of_grown h2 (fun j e => ?_), (hr2'.out.below hb3).kept (fun a e => ?_)⟩
      · cases q with
        | none => cases e
        | some b => cases e; exact .inr ⟨b, rfl, rfl⟩
      · cases e
        refine h2.block G (by have := ((hr2'.out.below hb3).far _ rfl).2; exact this) (fun e => ?_)
        cases q with
        | none => cases e
        | some b => exact hne'.out b rfl (by cases e; rfl)
    go_wp2
    clear y0 y1
    refine wp_region_held (S := fun u => Boxed u W0.heap.size [.int .i64 wx, .int .i64 wm]) (by kernel_rfl) ?_
    change wpAnyH _ _ _ _ _ _ _ _ (World.drew u2)
    have hS0 : Boxed u2.drew W0.heap.size [.int .i64 wx, .int .i64 wm] := hb1.out.2.1.below (below_step (below_drew' u2) hS9.out) (Nat.le_refl _)
    refine held_take (i := 0) (dst := some 29) (v := .pointer (some ⟨G, o, none⟩)) rfl rfl (by kernel_rfl) (by kernel_rfl) (by kernel_rfl) (fun _ _ _ h => h) (y_move (.tmp 0) rfl rfl rfl) hS0 ?_
    go_frame
    refine held_take (i := 1) (dst := some 30) (v := .pointer (some ⟨G, o, none⟩)) rfl rfl (by kernel_rfl) (by kernel_rfl) (by kernel_rfl) (fun _ _ _ h => h) (y_move (.tmp 0) rfl rfl rfl) hS0 ?_
    go_frame
    refine held_take (i := 2) (dst := some 31) (v := .pointer (some ⟨G, o, none⟩)) rfl rfl (by kernel_rfl) (by kernel_rfl) (by kernel_rfl) (fun _ _ _ h => h) (.inl ⟨rfl, fun u hu => by go_simp⟩) hS0 ?_
    go_frame
    refine held_take (i := 3) (dst := some 32) (v := .pointer (some ⟨G, o + 3, none⟩)) rfl rfl (by kernel_rfl) (by kernel_rfl) (by kernel_rfl) (fun _ _ _ h => h) (.inl ⟨rfl, fun u hu => by go_simp⟩) hS0 ?_
    go_frame
    refine held_take (i := 5) (dst := some 34) (v := .int .i64 p) rfl rfl (by kernel_rfl) (by kernel_rfl) (by kernel_rfl) (fun _ _ _ h => h) (y_move (.tmp 5) rfl rfl rfl) hS0 ?_
    go_frame
    refine held_take (i := 6) (dst := some 35) (v := .agg #[.int .i64 wx, .int .i64 wm]) rfl rfl (by kernel_rfl) (by kernel_rfl) (by kernel_rfl) (fun _ _ _ h => h) (y_load_agg 45 (.tmp 4) rfl rfl rfl (fun u hu => run_loadVar_at Tryz.underlying45 rfl (sizeHold _ _) _ hu.all)) hS0 ?_
    go_frame
    obtain ⟨W3, hW3⟩ : ∃ W3, u2.drew.alloc (.cells #[.int .i64 wx, .int .i64 wm] 45) = W3 := ⟨_, rfl⟩
    have hb4 := Lib.hid (hins.out _ hW3).1
    have hS3 : Boxed W3 W0.heap.size [.int .i64 wx, .int .i64 wm] := by rw [← hW3]; exact hS0.below (below_alloc _ _) (Nat.le_refl _)
    have k4 : W3.cell? ⟨G, o + 3, none⟩ = some (.slice q m d) := cell_kept hb4.out (Nat.le_refl _) k3
    have k3' : u2.drew.cell? ⟨G, o + 3, none⟩ = some (.slice q m d) := k3
    refine held_vv (i := 4) (j := 7) (di := some 33) (dj := some 36) (v := .slice q m d) (u := .slice (some ⟨u2.heap.size, 0, none⟩) 1 1) (w1 := u2.drew) (w2 := W3) (w3 := W3) rfl rfl rfl rfl (by kernel_rfl) (by kernel_rfl) (by kernel_rfl) (by kernel_rfl) rfl rfl rfl rfl rfl (by go_simp) hS0 (by rw [← hW3]; go_simp) (by rw [← hW3]; go_simp) hS3 (by go_simp) hS3 ?_
    go_frame
    refine held_call (i := 8) (dst := some 37) rfl rfl (by kernel_rfl) rfl (by go_simp) (hins.out _ hW3).2 ?_
    rintro e w4 ⟨q', c', rfl, h1, h2, h3⟩
    have ha4 := Lib.hid h1
    have hn4 := Lib.hid h3
    have hf4 := Lib.hid (harm.out _ _ hb4.out h2).1
    have hr4 := Lib.hid (harm.out _ _ hb4.out h2).2
    have c9 : w4.cell? ⟨G, o + 3, none⟩ = some (.slice q m d) := by rw [ho'.out]; exact row_cell hr4.out hvl.out 3 rfl
    have f9 : w4.frozen? ⟨G, o + 3, none⟩ = false := row_free hr4.out _
    have hS4 : Boxed w4 W0.heap.size [.int .i64 wx, .int .i64 wm] := fun j x hj => cell_ne' h2 (fun e => by
      rw [add_blk] at e
      cases q with
      | none => cases e
      | some b =>
        have e2 : b.block = W0.heap.size := by simpa using e
        have := (hfar.out b rfl).2
        have := hsz0.out
        omega) (hS3 j x hj)
    refine ⟨_, rfl, hS4, ?_⟩
    go_frame
    refine held_take (i := 9) (dst := some 38) (v := .pointer (some ⟨G, o, none⟩)) rfl rfl (by kernel_rfl) (by kernel_rfl) (by kernel_rfl) (fun _ _ _ h => h) (.inl ⟨rfl, fun u hu => by go_simp⟩) hS4 ?_
    go_frame
    refine held_take (i := 10) (dst := some 39) (v := .pointer (some ⟨G, o + 3, none⟩)) rfl rfl (by kernel_rfl) (by kernel_rfl) (by kernel_rfl) (fun _ _ _ h => h) (.inl ⟨rfl, fun u hu => by go_simp⟩) hS4 ?_
    go_frame
    have hst : (storeVar 40 ⟨G, o + 3, none⟩ (.slice q' (m + 1) c')).run Tryz.prog w4 = .ok () (w4.setCell ⟨G, o + 3, none⟩ (.slice q' (m + 1) c')) := by go_simp
    have hS5 : Boxed (w4.setCell ⟨G, o + 3, none⟩ (.slice q' (m + 1) c')) W0.heap.size [.int .i64 wx, .int .i64 wm] := fun j x hj => cell_ne' (setCell_grown w4 G _ _) (fun e => by
      rw [add_blk] at e
      have e2 : G = W0.heap.size := by simpa using e
      have := hlt.out.2
      have := hsz0.out
      omega) (hS4 j x hj)
    refine held_skip (i := 11) (dst := none) rfl rfl (by kernel_rfl) rfl (run_store_op (x := .tmp 39) (y := .tmp 37) rfl rfl rfl hst) hS5 ?_
    go_frame
    refine wpAnyH_done (by kernel_rfl) ?_ _
    have hb3'' := hb4
    clear hS0 hS3 hS4 hS5 hst k3 k4 k3' h1 h2 h3 hins hW3 c9 f9
    go_wp2
    go_end0
    rw [ho'.out]
    have hset := row_hq (q := q') (m := m + 1) (d := c') hr4.out hvl.out
    have hfs : Fr (InQ G q) w4 (w4.setCell ⟨G, i * 5 + 3, none⟩ (.slice q' (m + 1) c')) := Fr.of_set w4 _ _ (.inl rfl)
    have hbA : Below w.heap.size w W3 := below_step hb4.out hb2'.out
    have hnw : NewAt q q' w.heap.size := fun a' ha' => (hn4.out a' ha').imp_right (fun h => Nat.le_trans hbA.size h)
    refine ⟨q', m + 1, c', rfl, hset, ?_, hnw, (Fr.of_below hbA).trans (hf4.out.trans hfs)⟩
    rw [hgr.out, if_neg (by decide)]
    refine ha4.out.kept (fun a e => (setCell_grown w4 G _ _).block _ (ha4.out.far a e).2 (fun e2 => ?_))
    have hGlt := hlt.out.2
    have e3 : a.block = G := by cases e2; rfl
    rcases hnw a e with ⟨b, hb, hbb⟩ | h
    · exact hne'.out b hb (by rw [← hbb]; exact e3)
    · omega
end Go.Proofs.YtbgpppbcffpdbaaGreatDoor

/-! lineUp of locks. -/
namespace Go.Proofs.YtbgpppbcffpdbaaGreatDoor
open Go.RowKit

/-- the place of a waiter in the line: a conversion behind the other ones, another one behind all -/
def LineAt (ws : List WaitD) (x : WaitD) (p : Nat) : Prop := p ≤ ws.length ∧ (convB x = false → p = ws.length) ∧ (convB x = true → (∀ k a, p ≤ k → ws[k]? = some a → convB a = false) ∧ (∀ k a, p = k + 1 → ws[k]? = some a → convB a = true))
def LnPost (lo G n c i : Nat) (V : List QV) (v : QV) (l : List WaitD) (w : World) (e : Ending) (w' : World) : Prop := ∃ q' m' c', e = .returned (.tuple #[]) ∧ OwnS 43 w' lo (.slice (some ⟨G, 0, none⟩) n c) (V.set i { v with wq := q', wn := m', wc := c' }) ∧ OwnS 47 w' lo (.slice q' m' c') l ∧ NewAt v.wq q' w.heap.size ∧ Fr (InQ G v.wq) w w'

set_option maxRecDepth 100000 in
set_option maxHeartbeats 2000000 in
theorem lineUp_any (lo G n c i o : Nat) (ho : o = i * 5) (V : List QV) (v : QV) (ws : List WaitD) (wx wm wh : Int) (p : Nat) (hp : LineAt ws ⟨wx, wm, wh⟩ p) (w : World) (hlo : lo ≤ w.heap.size) (hrow : OwnS 43 w lo (.slice (some ⟨G, 0, none⟩) n c) V) (hv : V[i]? = some v)
    (hown : OwnS 47 w lo (.slice v.wq v.wn v.wc) ws) (hne : ∀ a, v.wq = some a → a.block ≠ G) (hsm : v.wn ≤ 1000000) :
    Calls Tryz.prog 72 #[.pointer (some ⟨G, o, none⟩), .agg #[.int .i64 wx, .int .i64 wm, .int .i64 wh]] w (LnPost lo G n c i V v (ws.take p ++ ⟨wx, wm, wh⟩ :: ws.drop p) w) := by
  obtain ⟨W, hW⟩ : ∃ W, w.alloc (.cells #[.int .i64 wx, .int .i64 wm, .int .i64 wh] 47) = W := ⟨_, rfl⟩
  have hb0 := Lib.hid (one_box (xs := [.int .i64 wx, .int .i64 wm, .int .i64 wh]) hW)
  have hrowW := Lib.hid (hrow.below hb0.out.1)
  have hownW := Lib.hid (hown.below hb0.out.1)
  have hfar := Lib.hid hown.far
  have hlt := Lib.hid (row_lt hrow)
  obtain ⟨⟨t, k, id⟩, hq, hn, hc, q, m, d⟩ := v
  have hvl := Lib.hid hv
  replace hownW : Hid (OwnS 47 W lo (.slice q m d) ws) := hownW
  replace hne : ∀ a, q = some a → a.block ≠ G := hne
  replace hsm : m ≤ 1000000 := hsm
  replace hfar : Hid (∀ a, q = some a → lo ≤ a.block ∧ a.block < w.heap.size) := hfar
  have hne' := Lib.hid hne
  have ho' := Lib.hid ho
  have hsm' := Lib.hid hsm
  have hml : Hid (m = ws.length) := hown.len
  have hpm : Hid (p ≤ m) := by show _ ≤ _; have h1 := hp.1; have h2 := hml.out; omega
  have hp' := Lib.hid hp
  have hs3 := sizeWait (.int .i64 wx) (.int .i64 wm) (.int .i64 wh)
  have c4 := row_cell hrowW.out hv 4 rfl
  rw [← ho] at c4
  have hreg : Hid (∀ u2, Below W.heap.size W u2 → OwnS 43 u2 lo (.slice (some ⟨G, 0, none⟩) n c) V ∧ OwnS 47 u2 lo (.slice q m d) ws ∧ Below w.heap.size w u2) := fun u2 h => ⟨hrowW.out.below h, hownW.out.below h, below_step h hb0.out.1⟩
  obtain ⟨b, hb⟩ : ∃ b, convB ⟨wx, wm, wh⟩ = b := ⟨_, rfl⟩
  have hcv := Lib.hid (converts_any wx wm wh W)
  rw [hb] at hcv
  have hb' := Lib.hid hb
  clear hrow hown hne hv ho hsm hp hb
  cases b with
  | false =>
    have hpe : m = p := by have h1 := hp'.out.2.1 hb'.out; have h2 := hml.out; omega
    subst hpe
    go_enter Tryz.func72, Tryz.ntmps72
    go_wp2_with (first
      | (with_reducible refine wpList_load_at rfl 47 (.tmp 3) rfl Tryz.underlying47 rfl hs3 rfl hb0.out.2.1.all ?_))
    clear hW c4
    refine hcv.out.mono ?_
    rintro e u2 ⟨rfl, h1⟩
    have hS9 := Lib.hid h1
    clear h1 hcv
    go_wp2
    have hS0 : Boxed u2.drew w.heap.size [.int .i64 wx, .int .i64 wm, .int .i64 wh] := hb0.out.2.1.below (below_step (below_drew' u2) hS9.out) (Nat.le_refl _)
    obtain ⟨hr2, ho2, hb2⟩ := hreg.out u2 hS9.out
    have k3 : u2.cell? ⟨G, o + 4, none⟩ = some (.slice q m d) := by rw [ho'.out]; exact row_cell hr2 hvl.out 4 rfl
    have hr2' := Lib.hid hr2
    have ho2' := Lib.hid ho2
    have hb2' := Lib.hid hb2
    clear hr2 ho2 hb2
    have hins : Hid (∀ W3, u2.drew.alloc (.cells #[.int .i64 wx, .int .i64 wm, .int .i64 wh] 47) = W3 → Below u2.heap.size u2 W3 ∧ Calls Tryz.prog 115 #[.slice q m d, .int .i64 m, .slice (some ⟨u2.heap.size, 0, none⟩) 1 1] W3 (fun e w' => ∃ q' c', e = .returned (.slice q' (m + 1) c') ∧ OwnS 47 w' lo (.slice q' (m + 1) c') (ws.take m ++ ⟨wx, wm, wh⟩ :: ws.drop m) ∧ W3.grownBy w' (q.map (·.block)) ∧ NewAt q q' W3.heap.size)) := by
      refine Lib.hid ?_
      intro W3 hW3
      have hb3 := one_box (xs := [.int .i64 wx, .int .i64 wm, .int .i64 wh]) hW3
      have hbU : Below u2.heap.size u2 u2.drew := below_drew' u2
      have hb3' : Below u2.heap.size u2 W3 := hbU.trans (hb3.1.mono hbU.size)
      have hrv : RowV 47 W3 u2.drew.heap.size (Cel.cells (⟨wx, wm, wh⟩ : WaitD)) := RowV.made' hW3
      exact ⟨hb3', insert_finW lo q m d m u2.drew.heap.size ws ⟨wx, wm, wh⟩ W3 hpm.out hsm'.out (by have h1 := hb3'.size; have h2 := hb2'.out.size; omega) (ho2'.out.below hb3') hrv (fun a ha => by have h1 := (ho2'.out.far a ha).2; have h2 := hbU.size; omega)⟩
    have harm : Hid (∀ W3 w4, Below u2.heap.size u2 W3 → W3.grownBy w4 (q.map (·.block)) → Fr (InQ G q) W3 w4 ∧ OwnS 43 w4 lo (.slice (some ⟨G, 0, none⟩) n c) V) := by
      refine Lib.hid ?_
      intro W3 w4 hb3 h2
      refine ⟨Fr.of_grown h2 (fun j e => ?_), (hr2'.out.below hb3).kept (fun a e => ?_)⟩
      · cases q with
        | none => cases e
        | some b => cases e; exact .inr ⟨b, rfl, rfl⟩
      · cases e
        refine h2.block G (by have := ((hr2'.out.below hb3).far _ rfl).2; exact this) (fun e => ?_)
        cases q with
        | none => cases e
        | some b => exact hne'.out b rfl (by cases e; rfl)
    refine wp_region_held (S := fun u => Boxed u w.heap.size [.int .i64 wx, .int .i64 wm, .int .i64 wh]) (by kernel_rfl) ?_
    change wpAnyH _ _ _ _ _ _ _ _ (World.drew u2)
    refine held_take (i := 0) (dst := some 28) (v := .pointer (some ⟨G, o, none⟩)) rfl rfl (by kernel_rfl) (by kernel_rfl) (by kernel_rfl) (fun _ _ _ h => h) (y_move (.tmp 0) rfl rfl rfl) hS0 ?_
    go_frame
    refine held_take (i := 1) (dst := some 29) (v := .pointer (some ⟨G, o, none⟩)) rfl rfl (by kernel_rfl) (by kernel_rfl) (by kernel_rfl) (fun _ _ _ h => h) (y_move (.tmp 0) rfl rfl rfl) hS0 ?_
    go_frame
    refine held_take (i := 2) (dst := some 30) (v := .pointer (some ⟨G, o, none⟩)) rfl rfl (by kernel_rfl) (by kernel_rfl) (by kernel_rfl) (fun _ _ _ h => h) (.inl ⟨rfl, fun u hu => by go_simp⟩) hS0 ?_
    go_frame
    refine held_take (i := 3) (dst := some 31) (v := .pointer (some ⟨G, o + 4, none⟩)) rfl rfl (by kernel_rfl) (by kernel_rfl) (by kernel_rfl) (fun _ _ _ h => h) (.inl ⟨rfl, fun u hu => by go_simp⟩) hS0 ?_
    go_frame
    refine held_take (i := 5) (dst := some 33) (v := .int .i64 m) rfl rfl (by kernel_rfl) (by kernel_rfl) (by kernel_rfl) (fun _ _ _ h => h) (y_move (.tmp 4) rfl rfl rfl) hS0 ?_
    go_frame
    refine held_take (i := 6) (dst := some 34) (v := .agg #[.int .i64 wx, .int .i64 wm, .int .i64 wh]) rfl rfl (by kernel_rfl) (by kernel_rfl) (by kernel_rfl) (fun _ _ _ h => h) (y_load_agg 47 (.tmp 3) rfl rfl rfl (fun u hu => run_loadVar_at Tryz.underlying47 rfl (sizeWait _ _ _) _ hu.all)) hS0 ?_
    go_frame
    obtain ⟨W3, hW3⟩ : ∃ W3, u2.drew.alloc (.cells #[.int .i64 wx, .int .i64 wm, .int .i64 wh] 47) = W3 := ⟨_, rfl⟩
    have hb4 := Lib.hid (hins.out _ hW3).1
    have hS3 : Boxed W3 w.heap.size [.int .i64 wx, .int .i64 wm, .int .i64 wh] := by rw [← hW3]; exact hS0.below (below_alloc _ _) (Nat.le_refl _)
    have k4 : W3.cell? ⟨G, o + 4, none⟩ = some (.slice q m d) := cell_kept hb4.out (Nat.le_refl _) k3
    have k3' : u2.drew.cell? ⟨G, o + 4, none⟩ = some (.slice q m d) := k3
    refine held_vv (i := 4) (j := 7) (di := some 32) (dj := some 35) (v := .slice q m d) (u := .slice (some ⟨u2.heap.size, 0, none⟩) 1 1) (w1 := u2.drew) (w2 := W3) (w3 := W3) rfl rfl rfl rfl (by kernel_rfl) (by kernel_rfl) (by kernel_rfl) (by kernel_rfl) rfl rfl rfl rfl rfl (by go_simp) hS0 (by rw [← hW3]; go_simp) (by rw [← hW3]; go_simp) hS3 (by go_simp) hS3 ?_
    go_frame
    refine held_call (i := 8) (dst := some 36) rfl rfl (by kernel_rfl) rfl (by go_simp) (hins.out _ hW3).2 ?_
    rintro e w4 ⟨q', c', rfl, h1, h2, h3⟩
    have ha4 := Lib.hid h1
    have hn4 := Lib.hid h3
    have hf4 := Lib.hid (harm.out _ _ hb4.out h2).1
    have hr4 := Lib.hid (harm.out _ _ hb4.out h2).2
    have c9 : w4.cell? ⟨G, o + 4, none⟩ = some (.slice q m d) := by rw [ho'.out]; exact row_cell hr4.out hvl.out 4 rfl
    have f9 : w4.frozen? ⟨G, o + 4, none⟩ = false := row_free hr4.out _
    have hS4 : Boxed w4 w.heap.size [.int .i64 wx, .int .i64 wm, .int .i64 wh] := fun j x hj => cell_ne' h2 (fun e => by
      rw [add_blk] at e
      cases q with
      | none => cases e
      | some b =>
        have e2 : b.block = w.heap.size := by simpa using e
        have := (hfar.out b rfl).2
        omega) (hS3 j x hj)
    refine ⟨_, rfl, hS4, ?_⟩
    go_frame
    refine held_take (i := 9) (dst := some 37) (v := .pointer (some ⟨G, o, none⟩)) rfl rfl (by kernel_rfl) (by kernel_rfl) (by kernel_rfl) (fun _ _ _ h => h) (.inl ⟨rfl, fun u hu => by go_simp⟩) hS4 ?_
    go_frame
    refine held_take (i := 10) (dst := some 38) (v := .pointer (some ⟨G, o + 4, none⟩)) rfl rfl (by kernel_rfl) (by kernel_rfl) (by kernel_rfl) (fun _ _ _ h => h) (.inl ⟨rfl, fun u hu => by go_simp⟩) hS4 ?_
    go_frame
    have hst : (storeVar 41 ⟨G, o + 4, none⟩ (.slice q' (m + 1) c')).run Tryz.prog w4 = .ok () (w4.setCell ⟨G, o + 4, none⟩ (.slice q' (m + 1) c')) := by go_simp
    have hS5 : Boxed (w4.setCell ⟨G, o + 4, none⟩ (.slice q' (m + 1) c')) w.heap.size [.int .i64 wx, .int .i64 wm, .int .i64 wh] := fun j x hj => cell_ne' (setCell_grown w4 G _ _) (fun e => by
      rw [add_blk] at e
      have e2 : G = w.heap.size := by simpa using e
      have := hlt.out.2
      omega) (hS4 j x hj)
    refine held_skip (i := 11) (dst := none) rfl rfl (by kernel_rfl) rfl (run_store_op (x := .tmp 38) (y := .tmp 36) rfl rfl rfl hst) hS5 ?_
    go_frame
    refine wpAnyH_done (by kernel_rfl) ?_ _
    clear hS0 hS3 hS4 hS5 hst k3 k4 k3' h1 h2 h3 hins hW3 c9 f9
    go_wp2
    go_end0
    rw [ho'.out]
    have hset := row_wq (q := q') (m := m + 1) (d := c') hr4.out hvl.out
    have hfs : Fr (InQ G q) w4 (w4.setCell ⟨G, i * 5 + 4, none⟩ (.slice q' (m + 1) c')) := Fr.of_set w4 _ _ (.inl rfl)
    have hbA : Below w.heap.size w W3 := below_step hb4.out hb2'.out
    have hnw : NewAt q q' w.heap.size := fun a' ha' => (hn4.out a' ha').imp_right (fun h => Nat.le_trans hbA.size h)
    refine ⟨q', m + 1, c', rfl, hset, ?_, hnw, (Fr.of_below hbA).trans (hf4.out.trans hfs)⟩
    refine ha4.out.kept (fun a e => (setCell_grown w4 G _ _).block _ (ha4.out.far a e).2 (fun e2 => ?_))
    have hGlt := hlt.out.2
    have e3 : a.block = G := by cases e2; rfl
    rcases hnw a e with ⟨b, hb, hbb⟩ | h
    · exact hne'.out b hb (by rw [← hbb]; exact e3)
    · omega
  | true =>
    go_enter Tryz.func72, Tryz.ntmps72
    go_wp2_with (first
      | (with_reducible refine wpList_load_at rfl 47 (.tmp 3) rfl Tryz.underlying47 rfl hs3 rfl hb0.out.2.1.all ?_))
    clear hW c4
    refine hcv.out.mono ?_
    rintro e w1 ⟨rfl, h1⟩
    have hS8 := Lib.hid h1
    clear h1 hcv
    go_wp2
    go_loopw [4] (fun v4 wr => ∃ j : Nat, v4 = .int .i64 j ∧ p ≤ j ∧ j ≤ m ∧ Hid (Below W.heap.size W wr)) (fun v4 _ => (intOf v4).toNat)
    case atStart => exact ⟨m, rfl, hpm.out, Nat.le_refl _, hS8.out⟩
    case round =>
      obtain ⟨j, rfl, hj1, hj2, hbr⟩ := hrel
      rcases Nat.eq_zero_or_pos j with hj0 | hj0
      · subst hj0
        obtain rfl : p = 0 := by omega
        have hS9 := hbr
        go_wp2
        have hS0 : Boxed wr.drew w.heap.size [.int .i64 wx, .int .i64 wm, .int .i64 wh] := hb0.out.2.1.below (below_step (below_drew' wr) hS9.out) (Nat.le_refl _)
        obtain ⟨hr2, ho2, hb2⟩ := hreg.out wr hS9.out
        have k3 : wr.cell? ⟨G, o + 4, none⟩ = some (.slice q m d) := by rw [ho'.out]; exact row_cell hr2 hvl.out 4 rfl
        have hr2' := Lib.hid hr2
        have ho2' := Lib.hid ho2
        have hb2' := Lib.hid hb2
        clear hr2 ho2 hb2
        have hins : Hid (∀ W3, wr.drew.alloc (.cells #[.int .i64 wx, .int .i64 wm, .int .i64 wh] 47) = W3 → Below wr.heap.size wr W3 ∧ Calls Tryz.prog 115 #[.slice q m d, .int .i64 0, .slice (some ⟨wr.heap.size, 0, none⟩) 1 1] W3 (fun e w' => ∃ q' c', e = .returned (.slice q' (m + 1) c') ∧ OwnS 47 w' lo (.slice q' (m + 1) c') (ws.take 0 ++ ⟨wx, wm, wh⟩ :: ws.drop 0) ∧ W3.grownBy w' (q.map (·.block)) ∧ NewAt q q' W3.heap.size)) := by
          refine Lib.hid ?_
          intro W3 hW3
          have hb3 := one_box (xs := [.int .i64 wx, .int .i64 wm, .int .i64 wh]) hW3
          have hbU : Below wr.heap.size wr wr.drew := below_drew' wr
          have hb3' : Below wr.heap.size wr W3 := hbU.trans (hb3.1.mono hbU.size)
          have hrv : RowV 47 W3 wr.drew.heap.size (Cel.cells (⟨wx, wm, wh⟩ : WaitD)) := RowV.made' hW3
          exact ⟨hb3', insert_finW lo q m d 0 wr.drew.heap.size ws ⟨wx, wm, wh⟩ W3 hpm.out hsm'.out (by have h1 := hb3'.size; have h2 := hb2'.out.size; omega) (ho2'.out.below hb3') hrv (fun a ha => by have h1 := (ho2'.out.far a ha).2; have h2 := hbU.size; omega)⟩
        have harm : Hid (∀ W3 w4, Below wr.heap.size wr W3 → W3.grownBy w4 (q.map (·.block)) → Fr (InQ G q) W3 w4 ∧ OwnS 43 w4 lo (.slice (some ⟨G, 0, none⟩) n c) V) := by
          refine Lib.hid ?_
          intro W3 w4 hb3 h2
          refine ⟨Fr.of_grown h2 (fun j e => ?_), (hr2'.out.below hb3).kept (fun a e => ?_)⟩
          · cases q with
            | none => cases e
            | some b => cases e; exact .inr ⟨b, rfl, rfl⟩
          · cases e
            refine h2.block G (by have := ((hr2'.out.below hb3).far _ rfl).2; exact this) (fun e => ?_)
            cases q with
            | none => cases e
            | some b => exact hne'.out b rfl (by cases e; rfl)
        refine wp_region_held (S := fun u => Boxed u w.heap.size [.int .i64 wx, .int .i64 wm, .int .i64 wh]) (by kernel_rfl) ?_
        change wpAnyH _ _ _ _ _ _ _ _ (World.drew wr)
        refine held_take (i := 0) (dst := some 28) (v := .pointer (some ⟨G, o, none⟩)) rfl rfl (by kernel_rfl) (by kernel_rfl) (by kernel_rfl) (fun _ _ _ h => h) (y_move (.tmp 0) rfl rfl rfl) hS0 ?_
        go_frame
        refine held_take (i := 1) (dst := some 29) (v := .pointer (some ⟨G, o, none⟩)) rfl rfl (by kernel_rfl) (by kernel_rfl) (by kernel_rfl) (fun _ _ _ h => h) (y_move (.tmp 0) rfl rfl rfl) hS0 ?_
        go_frame
        refine held_take (i := 2) (dst := some 30) (v := .pointer (some ⟨G, o, none⟩)) rfl rfl (by kernel_rfl) (by kernel_rfl) (by kernel_rfl) (fun _ _ _ h => h) (.inl ⟨rfl, fun u hu => by go_simp⟩) hS0 ?_
        go_frame
        refine held_take (i := 3) (dst := some 31) (v := .pointer (some ⟨G, o + 4, none⟩)) rfl rfl (by kernel_rfl) (by kernel_rfl) (by kernel_rfl) (fun _ _ _ h => h) (.inl ⟨rfl, fun u hu => by go_simp⟩) hS0 ?_
        go_frame
        refine held_take (i := 5) (dst := some 33) (v := .int .i64 0) rfl rfl (by kernel_rfl) (by kernel_rfl) (by kernel_rfl) (fun _ _ _ h => h) (y_move (.tmp 4) rfl rfl rfl) hS0 ?_
        go_frame
        refine held_take (i := 6) (dst := some 34) (v := .agg #[.int .i64 wx, .int .i64 wm, .int .i64 wh]) rfl rfl (by kernel_rfl) (by kernel_rfl) (by kernel_rfl) (fun _ _ _ h => h) (y_load_agg 47 (.tmp 3) rfl rfl rfl (fun u hu => run_loadVar_at Tryz.underlying47 rfl (sizeWait _ _ _) _ hu.all)) hS0 ?_
        go_frame
        obtain ⟨W3, hW3⟩ : ∃ W3, wr.drew.alloc (.cells #[.int .i64 wx, .int .i64 wm, .int .i64 wh] 47) = W3 := ⟨_, rfl⟩
        have hb4 := Lib.hid (hins.out _ hW3).1
        have hS3 : Boxed W3 w.heap.size [.int .i64 wx, .int .i64 wm, .int .i64 wh] := by rw [← hW3]; exact hS0.below (below_alloc _ _) (Nat.le_refl _)
        have k4 : W3.cell? ⟨G, o + 4, none⟩ = some (.slice q m d) := cell_kept hb4.out (Nat.le_refl _) k3
        have k3' : wr.drew.cell? ⟨G, o + 4, none⟩ = some (.slice q m d) := k3
        refine held_vv (i := 4) (j := 7) (di := some 32) (dj := some 35) (v := .slice q m d) (u := .slice (some ⟨wr.heap.size, 0, none⟩) 1 1) (w1 := wr.drew) (w2 := W3) (w3 := W3) rfl rfl rfl rfl (by kernel_rfl) (by kernel_rfl) (by kernel_rfl) (by kernel_rfl) rfl rfl rfl rfl rfl (by go_simp) hS0 (by rw [← hW3]; go_simp) (by rw [← hW3]; go_simp) hS3 (by go_simp) hS3 ?_
        go_frame
        refine held_call (i := 8) (dst := some 36) rfl rfl (by kernel_rfl) rfl (by go_simp) (hins.out _ hW3).2 ?_
        rintro e w4 ⟨q', c', rfl, h1, h2, h3⟩
        have ha4 := Lib.hid h1
        have hn4 := Lib.hid h3
        have hf4 := Lib.hid (harm.out _ _ hb4.out h2).1
        have hr4 := Lib.hid (harm.out _ _ hb4.out h2).2
        have c9 : w4.cell? ⟨G, o + 4, none⟩ = some (.slice q m d) := by rw [ho'.out]; exact row_cell hr4.out hvl.out 4 rfl
        have f9 : w4.frozen? ⟨G, o + 4, none⟩ = false := row_free hr4.out _
        have hS4 : Boxed w4 w.heap.size [.int .i64 wx, .int .i64 wm, .int .i64 wh] := fun j x hj => cell_ne' h2 (fun e => by
          rw [add_blk] at e
          cases q with
          | none => cases e
          | some b =>
            have e2 : b.block = w.heap.size := by simpa using e
            have := (hfar.out b rfl).2
            omega) (hS3 j x hj)
        refine ⟨_, rfl, hS4, ?_⟩
        go_frame
        refine held_take (i := 9) (dst := some 37) (v := .pointer (some ⟨G, o, none⟩)) rfl rfl (by kernel_rfl) (by kernel_rfl) (by kernel_rfl) (fun _ _ _ h => h) (.inl ⟨rfl, fun u hu => by go_simp⟩) hS4 ?_
        go_frame
        refine held_take (i := 10) (dst := some 38) (v := .pointer (some ⟨G, o + 4, none⟩)) rfl rfl (by kernel_rfl) (by kernel_rfl) (by kernel_rfl) (fun _ _ _ h => h) (.inl ⟨rfl, fun u hu => by go_simp⟩) hS4 ?_
        go_frame
        have hst : (storeVar 41 ⟨G, o + 4, none⟩ (.slice q' (m + 1) c')).run Tryz.prog w4 = .ok () (w4.setCell ⟨G, o + 4, none⟩ (.slice q' (m + 1) c')) := by go_simp
        have hS5 : Boxed (w4.setCell ⟨G, o + 4, none⟩ (.slice q' (m + 1) c')) w.heap.size [.int .i64 wx, .int .i64 wm, .int .i64 wh] := fun j x hj => cell_ne' (setCell_grown w4 G _ _) (fun e => by
          rw [add_blk] at e
          have e2 : G = w.heap.size := by simpa using e
          have := hlt.out.2
          omega) (hS4 j x hj)
        refine held_skip (i := 11) (dst := none) rfl rfl (by kernel_rfl) rfl (run_store_op (x := .tmp 38) (y := .tmp 36) rfl rfl rfl hst) hS5 ?_
        go_frame
        refine wpAnyH_done (by kernel_rfl) ?_ _
        clear hS0 hS3 hS4 hS5 hst k3 k4 k3' h1 h2 h3 hins hW3 c9 f9
        go_wp2
        go_end0
        rw [ho'.out]
        have hset := row_wq (q := q') (m := m + 1) (d := c') hr4.out hvl.out
        have hfs : Fr (InQ G q) w4 (w4.setCell ⟨G, i * 5 + 4, none⟩ (.slice q' (m + 1) c')) := Fr.of_set w4 _ _ (.inl rfl)
        have hbA : Below w.heap.size w W3 := below_step hb4.out hb2'.out
        have hnw : NewAt q q' w.heap.size := fun a' ha' => (hn4.out a' ha').imp_right (fun h => Nat.le_trans hbA.size h)
        refine ⟨q', m + 1, c', rfl, hset, ?_, hnw, (Fr.of_below hbA).trans (hf4.out.trans hfs)⟩
        refine ha4.out.kept (fun a e => (setCell_grown w4 G _ _).block _ (ha4.out.far a e).2 (fun e2 => ?_))
        have hGlt := hlt.out.2
        have e3 : a.block = G := by cases e2; rfl
        rcases hnw a e with ⟨b, hb, hbb⟩ | h
        · exact hne'.out b hb (by rw [← hbb]; exact e3)
        · omega
      · obtain ⟨j', hj'⟩ : ∃ j', j = j' + 1 := ⟨j - 1, by omega⟩
        obtain ⟨A, ⟨yx, ym, yh⟩, hqA, hy, hcy⟩ := (hreg.out wr hbr.out).2.1.reads.at (show j' < m by omega)
        have k4 : wr.cell? ⟨G, o + 4, none⟩ = some (.slice (some A) m d) := by rw [← hqA, ho'.out]; exact row_cell (hreg.out wr hbr.out).1 hvl.out 4 rfl
        clear hqA
        have hcy' : Hid (∀ j x, ([.int .i64 yx, .int .i64 ym, .int .i64 yh] : List Value)[j]? = some x → wr.cell? ((A.add (j' * 3)).add j) = some x) := hcy
        have hy' := Lib.hid hy
        have hs4 := sizeWait (.int .i64 yx) (.int .i64 ym) (.int .i64 yh)
        have hcw := Lib.hid (converts_any yx ym yh wr)
        have i0 : (0 : Int) < (j : Int) := by omega
        have i1 : (0 : Int) ≤ (j' : Int) := by omega
        have i2 : (j' : Int) < m := by omega
        have i3 : (j : Int) ≤ 1000000 := by have := hsm'.out; omega
        have e1 : (j : Int) - 1 = j' := by omega
        have hjj := Lib.hid hj'
        have d0 : wr.cell? (A.add (j' * 3)) = some (.int .i64 yx) := by have h := hcy 0 _ rfl; rwa [add0] at h
        have d1 : wr.cell? ⟨(A.add (j' * 3)).block, (A.add (j' * 3)).off + 1, none⟩ = some (.int .i64 ym) := hcy 1 _ rfl
        have d2 : wr.cell? ⟨(A.add (j' * 3)).block, (A.add (j' * 3)).off + 2, none⟩ = some (.int .i64 yh) := hcy 2 _ rfl
        clear hcy hy hj'
        rcases Nat.lt_or_ge j' p with hjp | hjp
        · have hjp2 : p = j := by have := hjj.out; omega
          subst hjp2
          have hcb : convB ⟨yx, ym, yh⟩ = true := (hp'.out.2.2 hb'.out).2 j' _ hjj.out hy'.out
          rw [hcb] at hcw
          clear hcb hjp
          go_wp2_with (first
            | (go_at_call 67; refine hcw.out.mono ?_; rintro e u2 ⟨rfl, hb2⟩; have hS9 := Lib.hid (below_step hb2 hbr.out); clear hb2 k4 d0 d1 d2))
          have hS0 : Boxed u2.drew w.heap.size [.int .i64 wx, .int .i64 wm, .int .i64 wh] := hb0.out.2.1.below (below_step (below_drew' u2) hS9.out) (Nat.le_refl _)
          obtain ⟨hr2, ho2, hb2⟩ := hreg.out u2 hS9.out
          have k3 : u2.cell? ⟨G, o + 4, none⟩ = some (.slice q m d) := by rw [ho'.out]; exact row_cell hr2 hvl.out 4 rfl
          have hr2' := Lib.hid hr2
          have ho2' := Lib.hid ho2
          have hb2' := Lib.hid hb2
          clear hr2 ho2 hb2
          have hins : Hid (∀ W3, u2.drew.alloc (.cells #[.int .i64 wx, .int .i64 wm, .int .i64 wh] 47) = W3 → Below u2.heap.size u2 W3 ∧ Calls Tryz.prog 115 #[.slice q m d, .int .i64 p, .slice (some ⟨u2.heap.size, 0, none⟩) 1 1] W3 (fun e w' => ∃ q' c', e = .returned (.slice q' (m + 1) c') ∧ OwnS 47 w' lo (.slice q' (m + 1) c') (ws.take p ++ ⟨wx, wm, wh⟩ :: ws.drop p) ∧ W3.grownBy w' (q.map (·.block)) ∧ NewAt q q' W3.heap.size)) := by
            refine Lib.hid ?_
            intro W3 hW3
            have hb3 := one_box (xs := [.int .i64 wx, .int .i64 wm, .int .i64 wh]) hW3
            have hbU : Below u2.heap.size u2 u2.drew := below_drew' u2
            have hb3' : Below u2.heap.size u2 W3 := hbU.trans (hb3.1.mono hbU.size)
            have hrv : RowV 47 W3 u2.drew.heap.size (Cel.cells (⟨wx, wm, wh⟩ : WaitD)) := RowV.made' hW3
            exact ⟨hb3', insert_finW lo q m d p u2.drew.heap.size ws ⟨wx, wm, wh⟩ W3 hpm.out hsm'.out (by have h1 := hb3'.size; have h2 := hb2'.out.size; omega) (ho2'.out.below hb3') hrv (fun a ha => by have h1 := (ho2'.out.far a ha).2; have h2 := hbU.size; omega)⟩
          have harm : Hid (∀ W3 w4, Below u2.heap.size u2 W3 → W3.grownBy w4 (q.map (·.block)) → Fr (InQ G q) W3 w4 ∧ OwnS 43 w4 lo (.slice (some ⟨G, 0, none⟩) n c) V) := by
            refine Lib.hid ?_
            intro W3 w4 hb3 h2
            refine ⟨Fr.of_grown h2 (fun j e => ?_), (hr2'.out.below hb3).kept (fun a e => ?_)⟩
            · cases q with
              | none => cases e
              | some b => cases e; exact .inr ⟨b, rfl, rfl⟩
            · cases e
              refine h2.block G (by have := ((hr2'.out.below hb3).far _ rfl).2; exact this) (fun e => ?_)
              cases q with
              | none => cases e
              | some b => exact hne'.out b rfl (by cases e; rfl)
          refine wp_region_held (S := fun u => Boxed u w.heap.size [.int .i64 wx, .int .i64 wm, .int .i64 wh]) (by kernel_rfl) ?_
          change wpAnyH _ _ _ _ _ _ _ _ (World.drew u2)
          refine held_take (i := 0) (dst := some 28) (v := .pointer (some ⟨G, o, none⟩)) rfl rfl (by kernel_rfl) (by kernel_rfl) (by kernel_rfl) (fun _ _ _ h => h) (y_move (.tmp 0) rfl rfl rfl) hS0 ?_
          go_frame
          refine held_take (i := 1) (dst := some 29) (v := .pointer (some ⟨G, o, none⟩)) rfl rfl (by kernel_rfl) (by kernel_rfl) (by kernel_rfl) (fun _ _ _ h => h) (y_move (.tmp 0) rfl rfl rfl) hS0 ?_
          go_frame
          refine held_take (i := 2) (dst := some 30) (v := .pointer (some ⟨G, o, none⟩)) rfl rfl (by kernel_rfl) (by kernel_rfl) (by kernel_rfl) (fun _ _ _ h => h) (.inl ⟨rfl, fun u hu => by go_simp⟩) hS0 ?_
          go_frame
          refine held_take (i := 3) (dst := some 31) (v := .pointer (some ⟨G, o + 4, none⟩)) rfl rfl (by kernel_rfl) (by kernel_rfl) (by kernel_rfl) (fun _ _ _ h => h) (.inl ⟨rfl, fun u hu => by go_simp⟩) hS0 ?_
          go_frame
          refine held_take (i := 5) (dst := some 33) (v := .int .i64 p) rfl rfl (by kernel_rfl) (by kernel_rfl) (by kernel_rfl) (fun _ _ _ h => h) (y_move (.tmp 4) rfl rfl rfl) hS0 ?_
          go_frame
          refine held_take (i := 6) (dst := some 34) (v := .agg #[.int .i64 wx, .int .i64 wm, .int .i64 wh]) rfl rfl (by kernel_rfl) (by kernel_rfl) (by kernel_rfl) (fun _ _ _ h => h) (y_load_agg 47 (.tmp 3) rfl rfl rfl (fun u hu => run_loadVar_at Tryz.underlying47 rfl (sizeWait _ _ _) _ hu.all)) hS0 ?_
          go_frame
          obtain ⟨W3, hW3⟩ : ∃ W3, u2.drew.alloc (.cells #[.int .i64 wx, .int .i64 wm, .int .i64 wh] 47) = W3 := ⟨_, rfl⟩
          have hb4 := Lib.hid (hins.out _ hW3).1
          have hS3 : Boxed W3 w.heap.size [.int .i64 wx, .int .i64 wm, .int .i64 wh] := by rw [← hW3]; exact hS0.below (below_alloc _ _) (Nat.le_refl _)
          have k4 : W3.cell? ⟨G, o + 4, none⟩ = some (.slice q m d) := cell_kept hb4.out (Nat.le_refl _) k3
          have k3' : u2.drew.cell? ⟨G, o + 4, none⟩ = some (.slice q m d) := k3
          refine held_vv (i := 4) (j := 7) (di := some 32) (dj := some 35) (v := .slice q m d) (u := .slice (some ⟨u2.heap.size, 0, none⟩) 1 1) (w1 := u2.drew) (w2 := W3) (w3 := W3) rfl rfl rfl rfl (by kernel_rfl) (by kernel_rfl) (by kernel_rfl) (by kernel_rfl) rfl rfl rfl rfl rfl (by go_simp) hS0 (by rw [← hW3]; go_simp) (by rw [← hW3]; go_simp) hS3 (by go_simp) hS3 ?_
          go_frame
          refine held_call (i := 8) (dst := some 36) rfl rfl (by kernel_rfl) rfl (by go_simp) (hins.out _ hW3).2 ?_
          rintro e w4 ⟨q', c', rfl, h1, h2, h3⟩
          have ha4 := Lib.hid h1
          have hn4 := Lib.hid h3
          have hf4 := Lib.hid (harm.out _ _ hb4.out h2).1
          have hr4 := Lib.hid (harm.out _ _ hb4.out h2).2
          have c9 : w4.cell? ⟨G, o + 4, none⟩ = some (.slice q m d) := by rw [ho'.out]; exact row_cell hr4.out hvl.out 4 rfl
          have f9 : w4.frozen? ⟨G, o + 4, none⟩ = false := row_free hr4.out _
          have hS4 : Boxed w4 w.heap.size [.int .i64 wx, .int .i64 wm, .int .i64 wh] := fun j x hj => cell_ne' h2 (fun e => by
            rw [add_blk] at e
            cases q with
            | none => cases e
            | some b =>
              have e2 : b.block = w.heap.size := by simpa using e
              have := (hfar.out b rfl).2
              omega) (hS3 j x hj)
          refine ⟨_, rfl, hS4, ?_⟩
          go_frame
          refine held_take (i := 9) (dst := some 37) (v := .pointer (some ⟨G, o, none⟩)) rfl rfl (by kernel_rfl) (by kernel_rfl) (by kernel_rfl) (fun _ _ _ h => h) (.inl ⟨rfl, fun u hu => by go_simp⟩) hS4 ?_
          go_frame
          refine held_take (i := 10) (dst := some 38) (v := .pointer (some ⟨G, o + 4, none⟩)) rfl rfl (by kernel_rfl) (by kernel_rfl) (by kernel_rfl) (fun _ _ _ h => h) (.inl ⟨rfl, fun u hu => by go_simp⟩) hS4 ?_
          go_frame
          have hst : (storeVar 41 ⟨G, o + 4, none⟩ (.slice q' (m + 1) c')).run Tryz.prog w4 = .ok () (w4.setCell ⟨G, o + 4, none⟩ (.slice q' (m + 1) c')) := by go_simp
          have hS5 : Boxed (w4.setCell ⟨G, o + 4, none⟩ (.slice q' (m + 1) c')) w.heap.size [.int .i64 wx, .int .i64 wm, .int .i64 wh] := fun j x hj => cell_ne' (setCell_grown w4 G _ _) (fun e => by
            rw [add_blk] at e
            have e2 : G = w.heap.size := by simpa using e
            have := hlt.out.2
            omega) (hS4 j x hj)
          refine held_skip (i := 11) (dst := none) rfl rfl (by kernel_rfl) rfl (run_store_op (x := .tmp 38) (y := .tmp 36) rfl rfl rfl hst) hS5 ?_
          go_frame
          refine wpAnyH_done (by kernel_rfl) ?_ _
          clear hS0 hS3 hS4 hS5 hst k3 k4 k3' h1 h2 h3 hins hW3 c9 f9
          go_wp2
          go_end0
          rw [ho'.out]
          have hset := row_wq (q := q') (m := m + 1) (d := c') hr4.out hvl.out
          have hfs : Fr (InQ G q) w4 (w4.setCell ⟨G, i * 5 + 4, none⟩ (.slice q' (m + 1) c')) := Fr.of_set w4 _ _ (.inl rfl)
          have hbA : Below w.heap.size w W3 := below_step hb4.out hb2'.out
          have hnw : NewAt q q' w.heap.size := fun a' ha' => (hn4.out a' ha').imp_right (fun h => Nat.le_trans hbA.size h)
          refine ⟨q', m + 1, c', rfl, hset, ?_, hnw, (Fr.of_below hbA).trans (hf4.out.trans hfs)⟩
          refine ha4.out.kept (fun a e => (setCell_grown w4 G _ _).block _ (ha4.out.far a e).2 (fun e2 => ?_))
          have hGlt := hlt.out.2
          have e3 : a.block = G := by cases e2; rfl
          rcases hnw a e with ⟨b, hb, hbb⟩ | h
          · exact hne'.out b hb (by rw [← hbb]; exact e3)
          · omega
        · have hcb : convB ⟨yx, ym, yh⟩ = false := (hp'.out.2.2 hb'.out).1 j' _ hjp hy'.out
          rw [hcb] at hcw
          clear hcb
          go_wp2_with (first
            | (go_at_call 67; refine hcw.out.mono ?_; rintro e u2 ⟨rfl, hb2⟩; have hS9 := Lib.hid (below_step hb2 hbr.out); clear hb2 k4 d0 d1 d2))
          go_roundw
          case rel => exact ⟨j', rfl, hjp, by have := hjj.out; omega, hS9.out⟩
          case measure => have := hjj.out; simp [intOf]; omega
end Go.Proofs.YtbgpppbcffpdbaaGreatDoor

/-! Locks of the call's own: the queues in a row, each one's slices in blocks of their own. -/
namespace Go.Proofs.YtbgpppbcffpdbaaGreatDoor
open Go.RowKit

/-- the blocks of a queue's slices -/
def hbs (v : QV) : List Nat := (v.hq.map (·.block)).toList ++ (v.wq.map (·.block)).toList
def bl (V : List QV) : List Nat := V.flatMap hbs
theorem hbs_h {v : QV} {a : Addr} (h : v.hq = some a) : a.block ∈ hbs v := by simp [hbs, h]
theorem hbs_w {v : QV} {a : Addr} (h : v.wq = some a) : a.block ∈ hbs v := by simp [hbs, h]
theorem hbs_or {v : QV} {b : Nat} (h : b ∈ hbs v) : (∃ a, v.hq = some a ∧ b = a.block) ∨ ∃ a, v.wq = some a ∧ b = a.block := by
  unfold hbs at h
  rcases List.mem_append.1 h with h | h
  · cases hq : v.hq with
    | none => rw [hq] at h; simp at h
    | some a => rw [hq] at h; exact .inl ⟨a, rfl, by simpa using h⟩
  · cases hq : v.wq with
    | none => rw [hq] at h; simp at h
    | some a => rw [hq] at h; exact .inr ⟨a, rfl, by simpa using h⟩
theorem hbs_nodup {v : QV} (h : ∀ a b, v.hq = some a → v.wq = some b → a.block ≠ b.block) : (hbs v).Nodup := by
  unfold hbs
  cases hq : v.hq with
  | none => cases v.wq <;> simp
  | some a =>
    cases hw : v.wq with
    | none => simp
    | some b => simpa using h a b hq hw
theorem bl_mem {V : List QV} {i : Nat} {v : QV} {b : Nat} (h : V[i]? = some v) (hb : b ∈ hbs v) : b ∈ bl V := List.mem_flatMap.2 ⟨v, List.mem_of_getElem? h, hb⟩
theorem bl_or {V : List QV} {b : Nat} (h : b ∈ bl V) : ∃ (i : Nat) (v : QV), V[i]? = some v ∧ b ∈ hbs v := by
  obtain ⟨v, hv, hb⟩ := List.mem_flatMap.1 h
  obtain ⟨i, hi⟩ := List.mem_iff_getElem?.1 hv
  exact ⟨i, v, hi, hb⟩

/-- a queue of the call's own -/
structure QO (w : World) (lo : Nat) (v : QV) (d : QueD) : Prop where
  res : v.res = d.res
  ok : d.res.ok
  hs : OwnS 45 w lo (.slice v.hq v.hn v.hc) d.hs
  ws : OwnS 47 w lo (.slice v.wq v.wn v.wc) d.ws
theorem QO.on {w : World} {lo : Nat} {v : QV} {d : QueD} (h : QO w lo v d) : v.On w d := ⟨h.res, h.ok, h.hs.reads, h.ws.reads⟩
theorem QO.lt {w : World} {lo : Nat} {v : QV} {d : QueD} (h : QO w lo v d) : ∀ b ∈ hbs v, lo ≤ b ∧ b < w.heap.size := fun b hb => by
  rcases hbs_or hb with ⟨a, ha, rfl⟩ | ⟨a, ha, rfl⟩
  · exact h.hs.far a ha
  · exact h.ws.far a ha
theorem QO.fr {S : Nat → Prop} {w w' : World} {lo : Nat} {v : QV} {d : QueD} (h : QO w lo v d) (hf : Fr S w w') (hn : ∀ b ∈ hbs v, ¬ S b) : QO w' lo v d :=
  ⟨h.res, h.ok, h.hs.fr hf (fun _ ha => hn _ (hbs_h ha)), h.ws.fr hf (fun _ ha => hn _ (hbs_w ha))⟩

/-- locks of the call's own -/
structure LkW (w : World) (lo : Nat) (q : Option Addr) (n c : Nat) (V : List QV) (L : List QueD) : Prop where
  row : OwnS 43 w lo (.slice q n c) V
  len : L.length = n
  on : ∀ (i : Nat) (v : QV) (d : QueD), V[i]? = some v → L[i]? = some d → QO w lo v d
  nd : (bl V).Nodup
  ne : ∀ a, q = some a → a.block ∉ bl V
theorem LkW.lk {w : World} {lo : Nat} {q : Option Addr} {n c : Nat} {V : List QV} {L : List QueD} (h : LkW w lo q n c V L) : LkOn w q n c V L := ⟨h.row.reads, h.len, fun i v d h1 h2 => (h.on i v d h1 h2).on⟩
theorem LkW.below {w w' : World} {lo : Nat} {q : Option Addr} {n c : Nat} {V : List QV} {L : List QueD} (h : LkW w lo q n c V L) (hb : Below w.heap.size w w') : LkW w' lo q n c V L :=
  ⟨h.row.below hb, h.len, fun i v d h1 h2 => (h.on i v d h1 h2).fr (S := fun _ => False) (Fr.of_below hb) (fun _ _ e => e), h.nd, h.ne⟩

/-- how far a copy of locks has come -/
structure ClR (w : World) (lo R B : Nat) (q : Option Addr) (n c : Nat) (V : List QV) (L : List QueD) (k : Nat) (wr : World) : Prop where
  ex : ∃ Vk, OwnS 43 wr lo (.slice q n c) Vk ∧ (∀ j v d, j < k → Vk[j]? = some v → L[j]? = some d → QO wr lo v d) ∧ (∀ j, k ≤ j → Vk[j]? = V[j]?) ∧ (bl (Vk.take k)).Nodup ∧ ∀ b ∈ bl (Vk.take k), B < b
  bel : Below w.heap.size w wr
  box : Boxed wr B [.slice q n c]
  res : RowV 24 wr R [.slice none 0 0]
theorem ClR.step {w wr w8 : World} {lo R B G : Nat} {n c k : Nat} {V Vk : List QV} {L : List QueD} {v2 : QV} {d : QueD} (hG : G < B) (hRG : R ≠ G) (hlo : w.heap.size ≤ lo) (hLG : lo ≤ G) (hBs : B < wr.heap.size) (hl : L.length = n) (hkn : k < n)
    (hrow : OwnS 43 wr lo (.slice (some ⟨G, 0, none⟩) n c) Vk) (hqo : ∀ j v d, j < k → Vk[j]? = some v → L[j]? = some d → QO wr lo v d) (heq : ∀ j, k ≤ j → Vk[j]? = V[j]?) (hnd : (bl (Vk.take k)).Nodup) (hB : ∀ b ∈ bl (Vk.take k), B < b)
    (hb : Below w.heap.size w wr) (hbox : Boxed wr B [.slice (some ⟨G, 0, none⟩) n c]) (hres : RowV 24 wr R [.slice none 0 0])
    (hd : L[k]? = some d) (hrow8 : OwnS 43 w8 lo (.slice (some ⟨G, 0, none⟩) n c) (Vk.set k v2)) (hf : Fr (fun j => j = G) wr w8) (h2 : QO w8 wr.heap.size v2 d) (hne : ∀ a b, v2.hq = some a → v2.wq = some b → a.block ≠ b.block) :
    ClR w lo R B (some ⟨G, 0, none⟩) n c V L (k + 1) w8 := by
  have hvl := hrow.len
  have hlt : ∀ b ∈ bl (Vk.take k), b < wr.heap.size := fun b hb => by
    obtain ⟨i, u, hi, hb⟩ := bl_or hb
    rw [List.getElem?_take] at hi
    split at hi
    · rename_i hik
      have hd2 : L[i]? = some (L[i]'(by omega)) := List.getElem?_eq_getElem (by omega)
      exact ((hqo i u _ hik hi hd2).lt b hb).2
    · cases hi
  have hlow : lo ≤ wr.heap.size := by omega
  have htake : (Vk.set k v2).take (k + 1) = Vk.take k ++ [v2] := by
    rw [List.take_set, List.take_succ_eq_append_getElem (by omega)]
    rw [List.set_append_right _ _ (by rw [List.length_take]; omega)]
    congr 1
    rw [List.length_take, Nat.min_eq_left (by omega), Nat.sub_self]; rfl
  have hbl : bl (Vk.take k ++ [v2]) = bl (Vk.take k) ++ hbs v2 := by simp [bl]
  refine ⟨⟨Vk.set k v2, hrow8, ?_, ?_, ?_, ?_⟩, ?_, ?_, ?_⟩
  · intro j u e hj hu he
    rw [List.getElem?_set] at hu
    by_cases hjk : k = j
    · subst hjk
      rw [if_pos rfl, if_pos (by omega)] at hu
      cases hu
      rw [hd] at he; cases he
      exact ⟨h2.res, h2.ok, h2.hs.mono hlow, h2.ws.mono hlow⟩
    · rw [if_neg hjk] at hu
      refine (hqo j u e (by omega) hu he).fr hf (fun b hb e2 => ?_)
      have hj2 : (Vk.take k)[j]? = some u := by rw [List.getElem?_take, if_pos (by omega)]; exact hu
      have := hB b (bl_mem hj2 hb)
      omega
  · intro j hj
    rw [List.getElem?_set, if_neg (by omega)]
    exact heq j (by omega)
  · rw [htake, hbl]
    refine List.nodup_append.2 ⟨hnd, hbs_nodup hne, fun b hb1 b' hb2 => ?_⟩
    have h1 := hlt b hb1
    have h3 := (h2.lt b' hb2).1
    omega
  · rw [htake, hbl]
    intro b hb1
    rcases List.mem_append.1 hb1 with hb1 | hb1
    · exact hB b hb1
    · have h3 := (h2.lt b hb1).1
      omega
  · exact hb.trans (hf.below hb.size (fun k e => by omega))
  · intro j x hj
    have hc := hbox j x hj
    rw [World.cell?_of_block (w := wr) (hf.block _ (cell_in hc) (fun e => by rw [add_blk] at e; have e2 : B = G := e; omega))]
    exact hc
  · exact hres.block (hf.block R hres.lt hRG)
theorem ClR.done {w wr : World} {lo R B n c : Nat} {q : Option Addr} {V : List QV} {L : List QueD} (h : ClR w lo R B q n c V L n wr) (hl : L.length = n) (hq : ∀ a, q = some a → a.block < B) : ∃ V', LkW wr lo q n c V' L := by
  obtain ⟨Vk, h1, h2, h3, h4, h5⟩ := h.ex
  have hvl := h1.len
  rw [List.take_of_length_le (by omega)] at h4 h5
  exact ⟨Vk, h1, hl, fun i v d hi hd => h2 i v d (by have := (List.getElem?_eq_some_iff.1 hd).1; omega) hi hd, h4, fun a ha hm => by have e1 := hq a ha; have e2 := h5 _ hm; omega⟩
end Go.Proofs.YtbgpppbcffpdbaaGreatDoor

/-! cloned of locks. -/
namespace Go.Proofs.YtbgpppbcffpdbaaGreatDoor
open Go.RowKit

def ClPost (w : World) (L : List QueD) (e : Ending) (w' : World) : Prop := ∃ q' n c' V', e = .returned (.agg #[.slice q' n c']) ∧ LkW w' w.heap.size q' n c' V' L ∧ Below w.heap.size w w'

set_option maxRecDepth 100000 in
set_option maxHeartbeats 2000000 in
theorem cloned_any (q : Option Addr) (n c : Nat) (V : List QV) (L : List QueD) (w : World) (h : LkOn w q n c V L) (hsm : Sm L) (hn6 : n ≤ 1000000) :
    Calls Tryz.prog 65 #[.agg #[.slice q n c]] w (ClPost w L) := by
  obtain ⟨W0, hW0⟩ : ∃ W, w.alloc (.cells #[.slice q n c] 24) = W := ⟨_, rfl⟩
  have hb0 := Lib.hid (one_box (xs := [.slice q n c]) hW0)
  obtain ⟨W, hW⟩ : ∃ W, W0.alloc (.cells #[.slice none 0 0] 24) = W := ⟨_, rfl⟩
  have hb1 := Lib.hid (one_box (xs := [.slice none 0 0]) hW)
  have hr1 : Hid (RowV 24 W W0.heap.size [.slice none 0 0]) := RowV.made' (cs := [.slice none 0 0]) hW
  have hbW := Lib.hid (below_step hb1.out.1 hb0.out.1)
  have hs0 : Hid (W0.heap.size = w.heap.size + 1) := hb0.out.2.2
  have hs1 : Hid (W.heap.size = w.heap.size + 2) := by show _ = _; have h1 := hb1.out.2.2; have h2 := hs0.out; omega
  have hh := Lib.hid (h.below hbW.out (Nat.le_refl _))
  have hl := Lib.hid h.len
  have hc := Lib.hid (cloneQ q n c V W hh.out.sl hn6 (fun e => by have h1 := hh.out.sl.nil e; have h2 := hh.out.sl.le; omega))
  have c0 : W.cell? ⟨w.heap.size, 0, none⟩ = some (.slice q n c) := cell_kept hb1.out.1 (Nat.le_refl _) (hb0.out.2.1.cell 0 rfl)
  have hon := Lib.hid h
  have hsm' := Lib.hid hsm
  have hn6' := Lib.hid hn6
  clear h hsm hn6
  go_enter Tryz.func65, Tryz.ntmps65
  go_wp2_with fail
  clear hW hW0 c0
  refine hc.out.mono ?_
  rintro e w1 ⟨q', c', rfl, h1, h2, h3⟩
  have ho1 := Lib.hid h1
  have hb2 := Lib.hid h2
  have hq1 := Lib.hid h3
  clear h1 h2 h3 hc
  obtain ⟨WB, hWB⟩ : ∃ WB, w1.alloc (.cells #[.slice q' n c'] 24) = WB := ⟨_, rfl⟩
  have hb3 := Lib.hid (one_box (xs := [.slice q' n c']) hWB)
  have hbB := Lib.hid (below_step hb3.out.1 hb2.out)
  have hqB : Hid (∀ a, q' = some a → W.heap.size ≤ a.block ∧ a.block < w1.heap.size) := ho1.out.far
  have hbA : Hid (Below w.heap.size w WB) := hbW.out.trans (hbB.out.mono hbW.out.size)
  have hcl0 : Hid (ClR w W.heap.size W0.heap.size w1.heap.size q' n c' V L 0 WB) := ⟨⟨V, ho1.out.below hb3.out.1, fun j v d hj => absurd hj (Nat.not_lt_zero _), fun j _ => rfl, by simp [bl], fun b hb => by simp [bl] at hb⟩, hbA.out, hb3.out.2.1, hr1.out.below hbB.out⟩
  have hB1 : Hid (w1.heap.size < WB.heap.size) := by show _ < _; have := hb3.out.2.2; omega
  have c3 := hb3.out.2.1.cell 0 rfl
  go_wp2
  clear hWB c3
  go_loopw [13] (fun v13 wr => ∃ k : Nat, k ≤ n ∧ v13 = .int .i64 k ∧ WB.heap.size ≤ wr.heap.size ∧ Hid (ClR w W.heap.size W0.heap.size w1.heap.size q' n c' V L k wr)) (fun v13 _ => n - (intOf v13).toNat)
  case atStart => exact ⟨0, Nat.zero_le _, rfl, Nat.le_refl _, hcl0.out⟩
  case round =>
    obtain ⟨k, hk, rfl, hsz, hr⟩ := hrel
    by_cases hlt : k < n
    · obtain ⟨Vk, hrow, hqo, heq, hnd, hBk⟩ := hr.out.ex
      have hB2 := hB1.out
      have hvl := hrow.len
      have hvk : ∃ v, Vk[k]? = some v := ⟨_, List.getElem?_eq_getElem (by omega)⟩
      obtain ⟨⟨⟨t, kk, id⟩, hq, hn, hc, wq, wn, wc⟩, hv⟩ := hvk
      have hV := heq k (Nat.le_refl _)
      rw [hv] at hV
      have hd : ∃ d, L[k]? = some d := ⟨_, List.getElem?_eq_getElem (by have := hl.out; omega)⟩
      obtain ⟨⟨r, hs, ws⟩, hd⟩ := hd
      have hvd := hon.out.on k _ _ hV.symm hd
      have hsm2 := hsm'.out.at hd
      cases q' with
      | none => exact absurd (OwnS.nil_cap hrow).1 (by omega)
      | some ad =>
      obtain ⟨G, cur, rfl, _⟩ := openedQ hrow
      have hG : W.heap.size ≤ G ∧ G < w1.heap.size := hqB.out _ rfl
      have hGB : Hid (G < w1.heap.size ∧ W.heap.size ≤ G) := ⟨hG.2, hG.1⟩
      have hs1' := hs1.out
      have hs0' := hs0.out
      obtain ⟨WA, hWA⟩ : ∃ WA, wr.alloc (.cells #[.int .i64 t, .bool kk, .int .u16 id, .slice hq hn hc, .slice wq wn wc] 43) = WA := ⟨_, rfl⟩
      have hbA2 := Lib.hid (one_box (xs := [.int .i64 t, .bool kk, .int .u16 id, .slice hq hn hc, .slice wq wn wc]) hWA)
      have hrowWA := Lib.hid (hrow.below hbA2.out.1)
      obtain ⟨SB, hSBe⟩ : ∃ SB : World → Prop, SB = fun u => Boxed u w1.heap.size [.slice (some ⟨G, 0, none⟩) n c'] ∧ Boxed u wr.heap.size [.int .i64 t, .bool kk, .int .u16 id, .slice hq hn hc, .slice wq wn wc] := ⟨_, rfl⟩
      have hSd : Hid (∀ u, SB u → Boxed u w1.heap.size [.slice (some ⟨G, 0, none⟩) n c'] ∧ Boxed u wr.heap.size [.int .i64 t, .bool kk, .int .u16 id, .slice hq hn hc, .slice wq wn wc]) := by rw [hSBe]; exact fun u h => h
      have hSB : Hid (∀ {u : World} (u' : World), Below u.heap.size u u' → SB u → SB u') := by rw [hSBe]; exact fun u' hb h => ⟨h.1.below hb (Nat.le_refl _), h.2.below hb (Nat.le_refl _)⟩
      have hSG : Hid (∀ (u u' : World), u.grownBy u' (some G) → SB u → SB u') := by
        rw [hSBe]
        intro u u' hg h
        have e1 : G ≠ w1.heap.size := by omega
        have e2 : G ≠ wr.heap.size := by omega
        exact ⟨fun j x hj => cell_ne' hg (fun e => e1 (by rw [add_blk] at e; simpa using e)) (h.1 j x hj), fun j x hj => cell_ne' hg (fun e => e2 (by rw [add_blk] at e; simpa using e)) (h.2 j x hj)⟩
      have hWAS : Hid (SB WA) := by rw [hSBe]; exact ⟨hr.out.box.below hbA2.out.1 (Nat.le_refl _), hbA2.out.2.1⟩
      have hWA1 := hWAS
      have hcell : Hid (∀ j x, ([.int .i64 t, .bool kk, .int .u16 id, .slice hq hn hc, .slice wq wn wc] : List Value)[j]? = some x → wr.cell? ((⟨G, k * 5, none⟩ : Addr).add j) = some x) := fun j x hj => by
        have h := row_cell hrow hv j hj
        have e : (⟨G, k * 5, none⟩ : Addr).add j = ⟨G, k * 5 + j, none⟩ := by unfold Addr.add; split <;> simp_all
        rw [e]; exact h
      have hs5 := sizeQue (.int .i64 t) (.bool kk) (.int .u16 id) (.slice hq hn hc) (.slice wq wn wc)
      have i0 : (0 : Int) ≤ k := by omega
      have i1 : (k : Int) < n := by omega
      have i3 : (k : Int) ≤ 1000000 := by have := hn6'.out; omega
      have hbwA : Hid (Below w.heap.size w WA) := hr.out.bel.trans (hbA2.out.1.mono hr.out.bel.size)
      have hvd' := Lib.hid hvd
      have hn1 : Hid (hn ≤ 1000000) := by show _ ≤ _; have h1 := hvd.hs.len; have h2 := hsm2.1; have h3 : hs.length = hn := h1; have h4 : hs.length ≤ 100000 := h2; omega
      have hw1 : Hid (wn ≤ 1000000) := by show _ ≤ _; have h1 := hvd.ws.len; have h2 := hsm2.2; have h3 : ws.length = wn := h1; have h4 : ws.length ≤ 100000 := h2; omega
      have hn0 : Hid (hq = none → hn = 0) := fun e => by have h1 := hvd.hs.nil e; have h2 := hvd.hs.le; have h3 : hn ≤ hc := h2; have h4 : hc = 0 := h1; omega
      have hw0 : Hid (wq = none → wn = 0) := fun e => by have h1 := hvd.ws.nil e; have h2 := hvd.ws.le; have h3 : wn ≤ wc := h2; have h4 : wc = 0 := h1; omega
      have hv' := Lib.hid hv
      have hd' := Lib.hid hd
      have hex := Lib.hid (And.intro hrow (And.intro hqo (And.intro heq (And.intro hnd hBk))))
      have hvl' := Lib.hid hvl
      clear hrow hqo heq hnd hBk hvl hv hV hd hvd hsm2 hG hSBe hB2 hs1' hs0'
      go_wp2_with (first
        | (with_reducible refine wpList_load_at rfl 43 (.tmp 16) rfl Tryz.underlying43 rfl hs5 rfl hcell.out ?_))
      clear hWA
      have hWA := hWA1
      have hS18 : SB WA.drew := hSB.out _ (below_drew' WA) hWA.out
      refine wp_region_held (S := SB) (by kernel_rfl) ?_
      change wpAnyH _ _ _ _ _ _ _ _ (World.drew WA)
      refine held_take (i := 0) (dst := some 18) (v := .pointer (some ⟨w1.heap.size, 0, none⟩)) rfl rfl (by kernel_rfl) (by kernel_rfl) (by kernel_rfl) (fun _ _ _ h => h) (.inl ⟨rfl, fun u hu => by go_simp⟩) hS18 ?_
      go_frame
      refine held_take (i := 1) (dst := some 19) (v := .slice (some ⟨G, 0, none⟩) n c') rfl rfl (by kernel_rfl) (by kernel_rfl) (by kernel_rfl) (fun _ _ _ h => h) (.inl ⟨rfl, fun u hu => by have c3 := (hSd.out u hu).1.cell 0 rfl; go_simp⟩) hS18 ?_
      go_frame
      refine held_take (i := 2) (dst := some 20) (v := .int .i64 k) rfl rfl (by kernel_rfl) (by kernel_rfl) (by kernel_rfl) (fun _ _ _ h => h) (y_move (.tmp 4) rfl rfl rfl) hS18 ?_
      go_frame
      refine held_take (i := 3) (dst := some 21) (v := .pointer (some ⟨wr.heap.size, 3, none⟩)) rfl rfl (by kernel_rfl) (by kernel_rfl) (by kernel_rfl) (fun _ _ _ h => h) (.inl ⟨rfl, fun u hu => by go_simp⟩) hS18 ?_
      go_frame
      refine held_take (i := 4) (dst := some 22) (v := .slice hq hn hc) rfl rfl (by kernel_rfl) (by kernel_rfl) (by kernel_rfl) (fun _ _ _ h => h) (.inl ⟨rfl, fun u hu => by have c3 := (hSd.out u hu).2.cell 3 rfl; go_simp⟩) hS18 ?_
      go_frame
      refine held_call (i := 5) (dst := some 23) rfl rfl (by kernel_rfl) rfl (by go_simp) (cloneH hq hn hc hs _ (hvd'.out.hs.below (hbwA.out.trans ((below_drew' WA).mono hbwA.out.size)) (Nat.le_refl _)) hn1.out hn0.out) ?_
      rintro e U5 ⟨qU5, cU5, rfl, h1, h2, h3⟩
      have hoU5 := Lib.hid h1
      have hbU5 : Hid (Below WA.heap.size WA U5) := (below_drew' WA).trans h2
      have hrowU5 := Lib.hid (hrowWA.out.below hbU5.out)
      have hSU5 : SB U5 := hSB.out _ hbU5.out hWA.out
      clear h1 h2 h3
      refine ⟨_, rfl, hSU5, ?_⟩
      go_frame
      refine held_take (i := 6) (dst := some 24) (v := .pointer (some ⟨G, k * 5, none⟩)) rfl rfl (by kernel_rfl) (by kernel_rfl) (by kernel_rfl) (fun _ _ _ h => h) (.inl ⟨rfl, fun u hu => by go_simp⟩) hSU5 ?_
      go_frame
      refine held_take (i := 7) (dst := some 25) (v := .pointer (some ⟨G, k * 5 + 3, none⟩)) rfl rfl (by kernel_rfl) (by kernel_rfl) (by kernel_rfl) (fun _ _ _ h => h) (.inl ⟨rfl, fun u hu => by go_simp⟩) hSU5 ?_
      go_frame
      have c9 : U5.cell? ⟨G, k * 5 + 3, none⟩ = some (.slice hq hn hc) := row_cell hrowU5.out hv'.out 3 rfl
      have f9 : U5.frozen? ⟨G, k * 5 + 3, none⟩ = false := row_free hrowU5.out _
      have hst : (storeVar 40 ⟨G, k * 5 + 3, none⟩ (.slice qU5 hn cU5)).run Tryz.prog U5 = .ok () (U5.setCell ⟨G, k * 5 + 3, none⟩ (.slice qU5 hn cU5)) := by go_simp
      obtain ⟨X5, hX5'⟩ : ∃ X5, U5.setCell ⟨G, k * 5 + 3, none⟩ (.slice qU5 hn cU5) = X5 := ⟨_, rfl⟩
      rw [hX5'] at hst
      have hgX5 : Hid (U5.grownBy X5 (some G)) := by rw [← hX5']; exact setCell_grown U5 G _ _
      have hX5 : Hid (SB X5) := hSG.out _ _ hgX5.out hSU5
      have hrowX5 : Hid (OwnS 43 X5 W.heap.size (.slice (some ⟨G, 0, none⟩) n c') (Vk.set k ⟨⟨t, kk, id⟩, qU5, hn, cU5, wq, wn, wc⟩)) := by rw [← hX5']; exact row_hq (q := qU5) (m := hn) (d := cU5) hrowU5.out hv'.out
      have hfX5 : Hid (Fr (fun j => j = G) WA X5) := (Fr.of_below hbU5.out).trans (Fr.of_grown hgX5.out (fun j e => by cases e; rfl))
      refine held_skip (i := 8) (dst := none) rfl rfl (by kernel_rfl) rfl (run_store_op (x := .tmp 25) (y := .tmp 23) rfl rfl rfl hst) hX5.out ?_
      go_frame
      refine wpAnyH_done (by kernel_rfl) ?_ _
      clear hst hX5' c9 f9 hSU5 hS18
      go_wp2
      have hV5 : Hid ((Vk.set k ⟨⟨t, kk, id⟩, qU5, hn, cU5, wq, wn, wc⟩)[k]? = some ⟨⟨t, kk, id⟩, qU5, hn, cU5, wq, wn, wc⟩) := by show _ = _; rw [List.getElem?_set, if_pos rfl, if_pos (by have := hvl'.out; omega)]
      have hbwX : Hid (Below w.heap.size w X5) := hbwA.out.trans (hfX5.out.below hbwA.out.size (fun j e => by have h1 := hGB.out.2; have h2 := hs1.out; omega))
      have hS26 : SB X5.drew := hSB.out _ (below_drew' X5) hX5.out
      refine wp_region_held (S := SB) (by kernel_rfl) ?_
      change wpAnyH _ _ _ _ _ _ _ _ (World.drew X5)
      refine held_take (i := 0) (dst := some 26) (v := .pointer (some ⟨w1.heap.size, 0, none⟩)) rfl rfl (by kernel_rfl) (by kernel_rfl) (by kernel_rfl) (fun _ _ _ h => h) (.inl ⟨rfl, fun u hu => by go_simp⟩) hS26 ?_
      go_frame
      refine held_take (i := 1) (dst := some 27) (v := .slice (some ⟨G, 0, none⟩) n c') rfl rfl (by kernel_rfl) (by kernel_rfl) (by kernel_rfl) (fun _ _ _ h => h) (.inl ⟨rfl, fun u hu => by have c3 := (hSd.out u hu).1.cell 0 rfl; go_simp⟩) hS26 ?_
      go_frame
      refine held_take (i := 2) (dst := some 28) (v := .int .i64 k) rfl rfl (by kernel_rfl) (by kernel_rfl) (by kernel_rfl) (fun _ _ _ h => h) (y_move (.tmp 4) rfl rfl rfl) hS26 ?_
      go_frame
      refine held_take (i := 3) (dst := some 29) (v := .pointer (some ⟨wr.heap.size, 4, none⟩)) rfl rfl (by kernel_rfl) (by kernel_rfl) (by kernel_rfl) (fun _ _ _ h => h) (.inl ⟨rfl, fun u hu => by go_simp⟩) hS26 ?_
      go_frame
      refine held_take (i := 4) (dst := some 30) (v := .slice wq wn wc) rfl rfl (by kernel_rfl) (by kernel_rfl) (by kernel_rfl) (fun _ _ _ h => h) (.inl ⟨rfl, fun u hu => by have c3 := (hSd.out u hu).2.cell 4 rfl; go_simp⟩) hS26 ?_
      go_frame
      refine held_call (i := 5) (dst := some 31) rfl rfl (by kernel_rfl) rfl (by go_simp) (cloneW wq wn wc ws _ (hvd'.out.ws.below (hbwX.out.trans ((below_drew' X5).mono hbwX.out.size)) (Nat.le_refl _)) hw1.out hw0.out) ?_
      rintro e U6 ⟨qU6, cU6, rfl, h1, h2, h3⟩
      have hoU6 := Lib.hid h1
      have hbU6 : Hid (Below X5.heap.size X5 U6) := (below_drew' X5).trans h2
      have hrowU6 := Lib.hid (hrowX5.out.below hbU6.out)
      have hSU6 : SB U6 := hSB.out _ hbU6.out hX5.out
      clear h1 h2 h3
      refine ⟨_, rfl, hSU6, ?_⟩
      go_frame
      refine held_take (i := 6) (dst := some 32) (v := .pointer (some ⟨G, k * 5, none⟩)) rfl rfl (by kernel_rfl) (by kernel_rfl) (by kernel_rfl) (fun _ _ _ h => h) (.inl ⟨rfl, fun u hu => by go_simp⟩) hSU6 ?_
      go_frame
      refine held_take (i := 7) (dst := some 33) (v := .pointer (some ⟨G, k * 5 + 4, none⟩)) rfl rfl (by kernel_rfl) (by kernel_rfl) (by kernel_rfl) (fun _ _ _ h => h) (.inl ⟨rfl, fun u hu => by go_simp⟩) hSU6 ?_
      go_frame
      have c9 : U6.cell? ⟨G, k * 5 + 4, none⟩ = some (.slice wq wn wc) := row_cell hrowU6.out hV5.out 4 rfl
      have f9 : U6.frozen? ⟨G, k * 5 + 4, none⟩ = false := row_free hrowU6.out _
      have hst : (storeVar 41 ⟨G, k * 5 + 4, none⟩ (.slice qU6 wn cU6)).run Tryz.prog U6 = .ok () (U6.setCell ⟨G, k * 5 + 4, none⟩ (.slice qU6 wn cU6)) := by go_simp
      obtain ⟨X6, hX6'⟩ : ∃ X6, U6.setCell ⟨G, k * 5 + 4, none⟩ (.slice qU6 wn cU6) = X6 := ⟨_, rfl⟩
      rw [hX6'] at hst
      have hgX6 : Hid (U6.grownBy X6 (some G)) := by rw [← hX6']; exact setCell_grown U6 G _ _
      have hX6 : Hid (SB X6) := hSG.out _ _ hgX6.out hSU6
      have hrowX6 : Hid (OwnS 43 X6 W.heap.size (.slice (some ⟨G, 0, none⟩) n c') ((Vk.set k ⟨⟨t, kk, id⟩, qU5, hn, cU5, wq, wn, wc⟩).set k ⟨⟨t, kk, id⟩, qU5, hn, cU5, qU6, wn, cU6⟩)) := by rw [← hX6']; exact row_wq (q := qU6) (m := wn) (d := cU6) hrowU6.out hV5.out
      have hfX6 : Hid (Fr (fun j => j = G) X5 X6) := (Fr.of_below hbU6.out).trans (Fr.of_grown hgX6.out (fun j e => by cases e; rfl))
      refine held_skip (i := 8) (dst := none) rfl rfl (by kernel_rfl) rfl (run_store_op (x := .tmp 33) (y := .tmp 31) rfl rfl rfl hst) hX6.out ?_
      go_frame
      refine wpAnyH_done (by kernel_rfl) ?_ _
      clear hst hX6' c9 f9 hSU6 hS26
      go_wp2
      go_roundw
      case rel =>
        refine ⟨k + 1, by omega, by go_num, ?_, ?_⟩
        · have h1 := hfX5.out.size; have h2 := hfX6.out.size; have h3 := hbA2.out.1.size; omega
        · obtain ⟨hrow, hqo, heq, hnd, hBk⟩ := hex.out
          have hf0 : Fr (fun j => j = G) wr X6 := (Fr.of_below hbA2.out.1).trans (hfX5.out.trans hfX6.out)
          have hsA : wr.heap.size < WA.heap.size := by have := hbA2.out.2.2; omega
          have hnG : ∀ a, qU5 = some a → ¬ a.block = G := fun a ha e => by have h1 := (hoU5.out.far a ha).1; have h2 : WA.drew.heap.size = WA.heap.size := rfl; have h3 := hGB.out.1; have h4 := hB1.out; omega
          have hnG2 : ∀ a, qU6 = some a → ¬ a.block = G := fun a ha e => by have h1 := (hoU6.out.far a ha).1; have h2 : X5.drew.heap.size = X5.heap.size := rfl; have h3 := hGB.out.1; have h4 := hB1.out; have h5 := hfX5.out.size; omega
          have hq5 : OwnS 45 X6 wr.heap.size (.slice qU5 hn cU5) hs := by
            have h1 : OwnS 45 X5 WA.drew.heap.size (.slice qU5 hn cU5) hs := hoU5.out.kept (fun a ha => hgX5.out.block _ (hoU5.out.far a ha).2 (fun e => hnG a ha (by cases e; rfl)))
            exact (h1.fr hfX6.out hnG).mono (by have h2 : WA.drew.heap.size = WA.heap.size := rfl; omega)
          have hq6 : OwnS 47 X6 wr.heap.size (.slice qU6 wn cU6) ws := by
            have h1 : OwnS 47 X6 X5.drew.heap.size (.slice qU6 wn cU6) ws := hoU6.out.kept (fun a ha => hgX6.out.block _ (hoU6.out.far a ha).2 (fun e => hnG2 a ha (by cases e; rfl)))
            exact h1.mono (by have h2 : X5.drew.heap.size = X5.heap.size := rfl; have h3 := hfX5.out.size; omega)
          refine ClR.step (R := W0.heap.size) (v2 := ⟨⟨t, kk, id⟩, qU5, hn, cU5, qU6, wn, cU6⟩) (d := ⟨r, hs, ws⟩) hGB.out.1 (by have h1 := hGB.out.2; have h2 := hs1.out; have h3 := hs0.out; omega) (by have h2 := hs1.out; omega) hGB.out.2 (by have := hB1.out; omega) hl.out (by omega) hrow hqo heq hnd hBk hr.out.bel hr.out.box hr.out.res hd'.out ?_ hf0 ⟨hvd'.out.res, hvd'.out.ok, hq5, hq6⟩ ?_
          · have h1 := hrowX6.out
            rw [List.set_set] at h1
            exact h1
          · intro a b ha hb e
            have h1 := (hoU5.out.far a ha).2
            have h2 := (hoU6.out.far b hb).1
            have h3 : X5.drew.heap.size = X5.heap.size := rfl
            have h4 := hgX5.out.size
            omega
      case measure => simp [intOf]; omega
    · obtain rfl : k = n := by omega
      have hx : ¬ (k : Int) < k := by omega
      have hr1' := Lib.hid hr.out.res
      have s1 := sizeLks (.slice q' k c')
      have hone : ∀ x ∈ ([.slice q' k c'] : List Value), x.oneCell' = true := fun x hx => by obtain rfl := List.mem_singleton.1 hx; rfl
      go_wp2_with (first
        | (with_reducible refine wpList_load_at rfl 24 (.tmp 3) rfl Tryz.underlying24 rfl s1 rfl hr.out.box.all ?_)
        | ((with_reducible refine wpList_store_at rfl 24 (.tmp 2) (.tmp 35) rfl (o := 0) (vs := [.slice q' k c']) rfl rfl hr1'.out s1 (Nat.le_refl _) hone ?_)
           intro w9 h9 hg9
           have q9 : Hid (RowV 24 w9 W0.heap.size [.slice q' k c']) := h9
           have hg9' := Lib.hid hg9
           clear h9 hg9))
      have m0 := q9.out.cell 0
      simp only [List.getElem?_cons_zero] at m0
      obtain ⟨V', hlk⟩ := hr.out.done hl.out (fun a ha => (hqB.out a ha).2)
      have hlow : Below w.heap.size w w9 := low_step hr.out.bel hg9'.out (by have := hs0.out; omega)
      have hlk9 : LkW w9 w.heap.size q' k c' V' L := by
        have hfr : Fr (fun j => j = W0.heap.size) wr w9 := Fr.of_grown hg9'.out (fun j e => by cases e; rfl)
        have e1 := hs1.out
        have e0 := hs0.out
        refine ⟨(hlk.row.fr hfr (fun a ha e => ?_)).mono (by omega), hlk.len, fun i v d h1 h2 => ?_, hlk.nd, hlk.ne⟩
        · have := (hqB.out a ha).1; omega
        · have h3 := (hlk.on i v d h1 h2)
          have h4 := h3.fr hfr (fun b hb e => by have := (h3.lt b hb).1; omega)
          exact ⟨h4.res, h4.ok, h4.hs.mono (by omega), h4.ws.mono (by omega)⟩
      exact bodyPost_ret (v := .agg #[.slice q' k c']) (by simp [results, Tryz.results65, go_sem, m0]) rfl ⟨q', k, c', V', rfl, hlk9, hlow⟩
end Go.Proofs.YtbgpppbcffpdbaaGreatDoor
