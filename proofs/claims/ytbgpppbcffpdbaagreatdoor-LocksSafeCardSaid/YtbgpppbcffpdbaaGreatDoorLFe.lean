/- few of the laws on locks. -/
import Derived.Test.YtbgpppbcffpdbaaGreatDoorLSx
import Derived.Test.YtbgpppbcffpdbaaGreatDoorLGe
import Derived.Test.YtbgpppbcffpdbaaGreatDoorLRe
namespace Go.Proofs.YtbgpppbcffpdbaaGreatDoor
open Go.RowKit

def fewD (d : QueD) : QueD := ⟨d.res, d.hs.take 20, d.ws.take 20⟩
def fewL (L : List QueD) : List QueD := (L.take 501).map fewD
set_option maxRecDepth 100000 in
theorem slice_h (p : Option Addr) (n c k : Nat) (hk : k ≤ n) (hn : n ≤ c) (u : World) : (Instr.slice 40 (.slice p n c) none (some (.int .i64 (k : Int))) none).run Tryz.prog u = .ok (.slice p k c) u := by
  have h := run_slice_h (P := Tryz.prog) u 40 p n c (by kernel_rfl) .i64 (k : Int) (by omega) (by omega)
  rw [h, show (sizeOf (Tryz.prog.elem 40)).run Tryz.prog u = .ok 2 u by kernel_rfl]
  simp only [Result.andThen, sliced, Int.toNat_natCast, Nat.zero_mul, Nat.sub_zero]
  congr 2
  split
  · rfl
  · cases p <;> simp [Addr.add]
set_option maxRecDepth 100000 in
theorem slice_w (p : Option Addr) (n c k : Nat) (hk : k ≤ n) (hn : n ≤ c) (u : World) : (Instr.slice 41 (.slice p n c) none (some (.int .i64 (k : Int))) none).run Tryz.prog u = .ok (.slice p k c) u := by
  have h := run_slice_h (P := Tryz.prog) u 41 p n c (by kernel_rfl) .i64 (k : Int) (by omega) (by omega)
  rw [h, show (sizeOf (Tryz.prog.elem 41)).run Tryz.prog u = .ok 3 u by kernel_rfl]
  simp only [Result.andThen, sliced, Int.toNat_natCast, Nat.zero_mul, Nat.sub_zero]
  congr 2
  split
  · rfl
  · cases p <;> simp [Addr.add]

/-- how far they are copied -/
structure FwR (W : World) (B3 : Nat) (L : List QueD) (k : Nat) (qo : Option Addr) (co : Nat) (Vk : List QV) (wr : World) : Prop where
  row : OwnS 43 wr W.heap.size (.slice qo k co) Vk
  on : ∀ (j : Nat) v d, Vk[j]? = some v → L[j]? = some d → QO wr W.heap.size v (fewD d)
  ne : ∀ a, qo = some a → a.block ∉ bl Vk
  box : RowV 24 wr B3 [.slice qo k co]
  fr : Fr (fun j => j = B3) W wr
def FewPost (L : List QueD) (w : World) (e : Ending) (w' : World) : Prop := ∃ q' n' c' V', e = .returned (.agg #[.slice q' n' c']) ∧ LkOn w' q' n' c' V' (fewL L) ∧ Below w.heap.size w w'
theorem FwR.lt {W wr : World} {B3 k co : Nat} {L : List QueD} {qo : Option Addr} {Vk : List QV} (h : FwR W B3 L k qo co Vk wr) (hl : k ≤ L.length) : ∀ b ∈ bl Vk, W.heap.size ≤ b ∧ b < wr.heap.size := fun b hb => by
  obtain ⟨i, v, hv, hb⟩ := bl_or hb
  have hvl := h.row.len
  have hi := (List.getElem?_eq_some_iff.1 hv).1
  exact (h.on i v _ hv (List.getElem?_eq_getElem (by omega))).lt b hb
theorem FwR.step {W wr u6 u7 : World} {B3 k co co' : Nat} {L : List QueD} {qo qo' : Option Addr} {Vk : List QV} {d : QueD} {v : QV} (h : FwR W B3 L k qo co Vk wr) (hB : B3 < W.heap.size) (hl : k < L.length) (hd : L[k]? = some d)
    (hb6 : Below wr.heap.size wr u6) (hv : QO u6 wr.heap.size v (fewD d)) (row7 : OwnS 43 u7 W.heap.size (.slice qo' (k + 1) co') (Vk ++ [v])) (hg7 : u6.grownBy u7 (qo.map (·.block))) (hq7 : qo'.map (·.block) = qo.map (·.block) ∨ qo'.map (·.block) = some u6.heap.size) {u8 : World} (hg8 : u7.grownBy u8 (some B3)) (box8 : RowV 24 u8 B3 [.slice qo' (k + 1) co']) :
    FwR W B3 L (k + 1) qo' co' (Vk ++ [v]) u8 := by
  have hvl : Vk.length = k := h.row.len.symm
  have hlt := h.lt (Nat.le_of_lt hl)
  have hz := hb6.size
  have hzW := h.fr.size
  have hf78 : Fr (fun j => some j = qo.map (·.block) ∨ j = B3) u6 u8 := (Fr.of_grown hg7 (fun j e => .inl e.symm)).trans (Fr.of_grown hg8 (fun j e => by cases e; exact .inr rfl))
  have hqf := h.row.far
  have hneB : ∀ a, qo' = some a → some a.block ≠ some B3 := fun a ha e => by
    have e2 : a.block = B3 := by simpa using e
    have := (row7.far a ha).1
    omega
  refine ⟨row7.kept (fun a ha => hg8.block _ (row7.far a ha).2 (hneB a ha)), fun j u e hu he => ?_, fun a ha hm => ?_, box8, ?_⟩
  · rcases Nat.lt_or_ge j Vk.length with h1 | h1
    · rw [List.getElem?_append_left h1] at hu
      have h2 := (h.on j u e hu he)
      refine (h2.fr (S := fun _ => False) (Fr.of_below hb6) (fun _ _ e => e)).fr hf78 (fun b hb e => ?_)
      have hb2 := hlt b (bl_mem hu hb)
      rcases e with e | e
      · cases qo with
        | none => cases e
        | some a => exact h.ne a rfl (by have e2 : b = a.block := by simpa using e
                                         rw [← e2]; exact bl_mem hu hb)
      · omega
    · rw [List.getElem?_append_right h1] at hu
      have hj : j = k := by have := (List.getElem?_eq_some_iff.1 hu).1; simp at this; omega
      subst hj
      rw [hd] at he; cases he
      rw [show j - Vk.length = 0 by omega] at hu
      simp at hu; subst hu
      refine (hv.fr hf78 (fun b hb e => ?_)).mono hzW
      have hb2 := hv.lt b hb
      rcases e with e | e
      · cases qo with
        | none => cases e
        | some a =>
          have e2 : b = a.block := by simpa using e
          have := (hqf a rfl).2
          omega
      · omega
  · have hbl : bl (Vk ++ [v]) = bl Vk ++ hbs v := by simp [bl]
    rw [hbl] at hm
    rw [ha] at hq7
    have hcase : (∃ b, qo = some b ∧ a.block = b.block) ∨ a.block = u6.heap.size := by
      rcases hq7 with e | e
      · cases qo with
        | none => cases e
        | some b => exact .inl ⟨b, rfl, by simpa using e⟩
      · exact .inr (by simpa using e)
    rcases List.mem_append.1 hm with hm | hm
    · have h2 := hlt _ hm
      rcases hcase with ⟨b, h3, h4⟩ | h3
      · exact h.ne b h3 (by rw [← h4]; exact hm)
      · omega
    · have h2 := hv.lt _ hm
      rcases hcase with ⟨b, h3, h4⟩ | h3
      · have := (hqf b h3).2; omega
      · omega
  · refine (h.fr.then (Fr.of_below (S := fun _ => False) hb6) (fun _ _ e => e.elim)).then hf78 (fun j hj e => ?_)
    rcases e with e | e
    · cases qo with
      | none => cases e
      | some a =>
        have e2 : j = a.block := by simpa using e
        have := (hqf a rfl).1
        omega
    · exact e

/-- the buffer of holds is filled, the one of waits is new -/
structure T3 (WA u : World) (l : List HoldD) (qh : Option Addr) (kh ch g1 : Nat) : Prop where
  bl : Below WA.heap.size WA u
  hs : OwnS 45 u WA.heap.size (.slice qh kh ch) l
  ws : OwnS 47 u WA.heap.size (.slice (some ⟨g1, 0, none⟩) 0 0) ([] : List WaitD)
  ne : ∀ a, qh = some a → a.block ≠ g1
  ge : WA.heap.size ≤ g1
structure T4 (WA u : World) (l : List HoldD) (qh : Option Addr) (kh ch : Nat) (ws : List WaitD) (qw : Option Addr) (kw cw : Nat) : Prop where
  bl : Below WA.heap.size WA u
  hs : OwnS 45 u WA.heap.size (.slice qh kh ch) l
  ws : OwnS 47 u WA.heap.size (.slice qw kw cw) ws
theorem fill_h {WA u : World} {g m c : Nat} {q : Option Addr} {l : List HoldD} (hb : Below WA.heap.size WA u) (ho : OwnS 45 u WA.heap.size (.slice (some ⟨g, 0, none⟩) 0 0) ([] : List HoldD)) (hr : SlOn u q m c l) (hm : m ≤ 20) :
    ∃ q' c' u', (Builtin.append_ #[40, 40] 40 #[.slice (some ⟨g, 0, none⟩) 0 0, .slice q m c]).run Tryz.prog u = .ok (.slice q' m c') u' ∧ Below WA.heap.size WA u' ∧ OwnS 45 u' WA.heap.size (.slice q' m c') l ∧ u.grownBy u' (some g) ∧ (∀ a, q' = some a → a.block = g ∨ a.block = u.heap.size) := by
  obtain ⟨q', c', u', h1, h2, h3, h4⟩ := run_append_l Tryz.underlying40 infoHold rfl 40 ho hr (by omega) (by omega) hb.size
  rw [Nat.zero_add] at h1 h2
  exact ⟨q', c', u', h1, low_step hb h3 (ho.far _ rfl).1, h2, h3, fun a ha => by rw [ha] at h4; rcases h4 with h4 | h4; exact .inl (by simpa using h4); exact .inr (by simpa using h4)⟩
theorem fill_w {WA u : World} {l : List HoldD} {qh : Option Addr} {kh ch g1 m c : Nat} {q : Option Addr} {ws : List WaitD} (h : T3 WA u l qh kh ch g1) (hr : SlOn u q m c ws) (hm : m ≤ 20) :
    ∃ q' c' u', (Builtin.append_ #[41, 41] 41 #[.slice (some ⟨g1, 0, none⟩) 0 0, .slice q m c]).run Tryz.prog u = .ok (.slice q' m c') u' ∧ T4 WA u' l qh kh ch ws q' m c' := by
  obtain ⟨q', c', u', h1, h2, h3, h4⟩ := run_append_l Tryz.underlying41 infoWait rfl 41 h.ws hr (by omega) (by omega) h.bl.size
  rw [Nat.zero_add] at h1 h2
  exact ⟨q', c', u', h1, low_step h.bl h3 h.ge, h.hs.kept (fun a ha => h3.block _ (h.hs.far a ha).2 (fun e => h.ne a ha (by simpa using e))), h2⟩
/-- the three ways there: the holds' buffer first and filled first, first and filled behind, behind -/
theorem way_1 {WA u2 : World} {q' : Option Addr} {m c' : Nat} {l : List HoldD} (hb2 : Below WA.heap.size WA u2) (h2 : OwnS 45 u2 WA.heap.size (.slice q' m c') l) {u3 : World} (h3 : u2.alloc (.cells #[] 47) = u3) : T3 WA u3 l q' m c' u2.heap.size := by
  have hb : Below u2.heap.size u2 u3 := by rw [← h3]; exact (Below.refl _ _).alloc (Nat.le_refl _) _
  exact ⟨by rw [← h3]; exact hb2.alloc hb2.size _, h2.below hb, (OwnS.empty h3 rfl).mono hb2.size, fun a ha e => by have := (h2.far a ha).2; omega, hb2.size⟩
theorem way_2 {WA u2 u3 : World} {q' : Option Addr} {m c' gh gw : Nat} {l : List HoldD} (hw : OwnS 47 u2 WA.heap.size (.slice (some ⟨gw, 0, none⟩) 0 0) ([] : List WaitD)) (hne : gh ≠ gw)
    (hb3 : Below WA.heap.size WA u3) (h3 : OwnS 45 u3 WA.heap.size (.slice q' m c') l) (hg3 : u2.grownBy u3 (some gh)) (hq3 : ∀ a, q' = some a → a.block = gh ∨ a.block = u2.heap.size) : T3 WA u3 l q' m c' gw := by
  have hlt := (hw.far _ rfl)
  exact ⟨hb3, h3, hw.kept (fun a ha => by cases ha; exact hg3.block _ hlt.2 (fun e => hne (by simpa using e.symm))), fun a ha e => by rcases hq3 a ha with h | h; exact hne (h.symm.trans e); have h5 : gw < u2.heap.size := hlt.2; omega, hlt.1⟩
/-- the two slices stand in the copy -/
theorem fin6 {wo WA u4 : World} {t id : Int} {kk : Bool} {hq wq : Option Addr} {hn hc wn wc : Nat} {l : List HoldD} {ws : List WaitD} {qh qw : Option Addr} {kh ch kw cw : Nat} (h : T4 WA u4 l qh kh ch ws qw kw cw) (hz : wo.heap.size < WA.heap.size) (hbA : Below wo.heap.size wo WA)
    (hr : RowV 43 WA wo.heap.size [.int .i64 t, .bool kk, .int .u16 id, .slice hq hn hc, .slice wq wn wc]) (hok : (⟨t, kk, id⟩ : ResD).ok) {u5 u6 : World} (h5 : u4.setCell ⟨wo.heap.size, 3, none⟩ (.slice qh kh ch) = u5) (h6 : u5.setCell ⟨wo.heap.size, 4, none⟩ (.slice qw kw cw) = u6) :
    Below wo.heap.size wo u6 ∧ RowV 43 u6 wo.heap.size [.int .i64 t, .bool kk, .int .u16 id, .slice qh kh ch, .slice qw kw cw] ∧ QO u6 wo.heap.size ⟨⟨t, kk, id⟩, qh, kh, ch, qw, kw, cw⟩ ⟨⟨t, kk, id⟩, l, ws⟩ := by
  have hr5 := (hr.below h.bl).set 3 (.slice qh kh ch)
  rw [h5] at hr5
  have hr6 := hr5.set 4 (.slice qw kw cw)
  rw [h6] at hr6
  have hf : Fr (fun j => j = wo.heap.size) u4 u6 := by
    refine Fr.trans (b := u5) ?_ ?_
    · rw [← h5]; exact Fr.of_set _ _ _ rfl
    · rw [← h6]; exact Fr.of_set _ _ _ rfl
  have hb4 : Below wo.heap.size wo u4 := below_step h.bl hbA
  exact ⟨hb4.trans (hf.below hb4.size (fun j e => by omega)), hr6, rfl, hok, (h.hs.fr hf (fun a ha e => by have := (h.hs.far a ha).1; omega)).mono (by omega), (h.ws.fr hf (fun a ha e => by have := (h.ws.far a ha).1; omega)).mono (by omega)⟩
theorem EndsV.mk' {P : Program} {o : Oper} {a : Act} {w w' : World} {R : Value → World → Prop} {v : Value} (h : (execOp a.eval o).run P w = .ok (.value v) w') (hR : R v w') : EndsV P o a w R := ⟨v, w', h, hR⟩
theorem no_x {b : Bool} {X : Prop} (h : b = true) : b = false → X := fun e => by rw [h] at e; cases e

set_option maxRecDepth 100000 in
set_option maxHeartbeats 4000000 in
theorem few_any (q : Option Addr) (n c : Nat) (V : List QV) (L : List QueD) (w : World) (h : LkOn w q n c V L) :
    Calls Tryz.prog 10 #[.agg #[.slice q n c]] w (FewPost L w) := by
  obtain ⟨W0, hW0⟩ : ∃ W, w.alloc (.cells #[.slice q n c] 24) = W := ⟨_, rfl⟩
  have hb0 := Lib.hid (one_box (xs := [.slice q n c]) hW0)
  obtain ⟨W1, hW1⟩ : ∃ W, W0.alloc (.cells #[.slice none 0 0] 24) = W := ⟨_, rfl⟩
  have hb1 := Lib.hid (one_box (xs := [.slice none 0 0]) hW1)
  have hr1 : Hid (RowV 24 W1 W0.heap.size [.slice none 0 0]) := RowV.made' (cs := [.slice none 0 0]) hW1
  obtain ⟨W, hW⟩ : ∃ W, W1.alloc (.cells #[.slice none 0 0] 24) = W := ⟨_, rfl⟩
  have hb2 := Lib.hid (one_box (xs := [.slice none 0 0]) hW)
  have hr2 : Hid (RowV 24 W W1.heap.size [.slice none 0 0]) := RowV.made' (cs := [.slice none 0 0]) hW
  have hr1W := Lib.hid (hr1.out.below hb2.out.1)
  have hs0 : Hid (W0.heap.size = w.heap.size + 1) := hb0.out.2.2
  have hs1 : Hid (W1.heap.size = w.heap.size + 2) := by show _ = _; have h1 := hb1.out.2.2; have h2 := hs0.out; omega
  have hs2 : Hid (W.heap.size = w.heap.size + 3) := by show _ = _; have h1 := hb2.out.2.2; have h2 := hs1.out; omega
  have hb12 := Lib.hid (below_step hb2.out.1 hb1.out.1)
  have hbW := Lib.hid (below_step hb12.out hb0.out.1)
  have x0 := Lib.hid (hb0.out.2.1.below hb12.out (Nat.le_refl _))
  have hon := Lib.hid h
  have hl := Lib.hid h.len
  have hnc : Hid (n ≤ 9223372036854775807) := by show _ ≤ _; have h1 := h.sl.le; have h2 := h.sl.cap; unfold maxLen at h2; omega
  have hnc' := hnc.out
  have hB3 : Hid (W1.heap.size < W.heap.size) := by show _ < _; have := hs1.out; have := hs2.out; omega
  have hF0 : Hid (FwR W W1.heap.size L 0 none 0 [] W) := ⟨OwnS.nil _ _ _, fun j v d h => (by simp at h), fun a h => (by cases h), hr2.out, Fr.refl _ _⟩
  have c0 := x0.out.cell 0 rfl
  clear h
  go_enter Tryz.func10, Tryz.ntmps10
  go_wp2
  clear hW0 hW1 hW c0
  go_loopw [9] (fun v9 wr => ∃ (k : Nat) (qo : Option Addr) (co : Nat) (Vk : List QV), k ≤ n ∧ k ≤ 501 ∧ v9 = .int .i64 k ∧ Hid (FwR W W1.heap.size L k qo co Vk wr)) (fun v9 _ => n - (intOf v9).toNat)
  case atStart => exact ⟨0, none, 0, [], Nat.zero_le _, Nat.zero_le _, rfl, hF0⟩
  case round =>
    obtain ⟨k, qo, co, Vk, hk, hk5, rfl, hr⟩ := hrel
    obtain ⟨wo, rfl⟩ : ∃ x, x = wr := ⟨_, rfl⟩
    have hbo : Hid (Below w.heap.size w wo) := hbW.out.trans (hr.out.fr.below hbW.out.size (fun j e => by have := hs1.out; omega))
    have hend : Hid (k = n ∨ k = 501 → ∀ u, Below wo.heap.size wo u → ∃ w9, RowV 24 u W0.heap.size [.slice none 0 0] ∧ RowV 24 u W1.heap.size [.slice qo k co] ∧ (∀ w9, u.grownBy w9 (some W0.heap.size) → LkOn w9 qo k co Vk (fewL L) ∧ Below w.heap.size w w9) ∧ w9 = u) := by
      refine Lib.hid ?_
      intro hkn u hu
      have hs10 : W0.heap.size ≠ W1.heap.size := by have := hs0.out; have := hs1.out; omega
      refine ⟨u, (hr1W.out.block (hr.out.fr.block _ hr1W.out.lt (fun e => hs10 e))).below hu, hr.out.box.below hu, fun w9 hg9 => ⟨⟨?_, ?_, fun i v d h1 h2 => ?_⟩, low_step (below_step hu hbo.out) hg9 (by have := hs0.out; omega)⟩, rfl⟩
      · exact ((hr.out.row.below hu).gr hg9 (by have := hs0.out; have := hs2.out; omega)).reads
      · unfold fewL
        rw [List.length_map, List.length_take, hl.out]
        omega
      · have h3 : ∃ d0, L[i]? = some d0 ∧ d = fewD d0 := by
          unfold fewL at h2
          rw [List.getElem?_map, List.getElem?_take] at h2
          split at h2
          · cases h4 : L[i]? with
            | none => rw [h4] at h2; cases h2
            | some d0 => rw [h4] at h2; cases h2; exact ⟨d0, rfl, rfl⟩
          · cases h2
        obtain ⟨d0, h3, rfl⟩ := h3
        have h4 := ((hr.out.on i v d0 h1 h3).fr (S := fun _ => False) (Fr.of_below hu) (fun _ _ e => e))
        have h5 : Fr (fun j => j = W0.heap.size) u w9 := Fr.of_grown hg9 (fun j e => by cases e; rfl)
        exact (h4.fr h5 (fun b hb e => by have := (h4.lt b hb).1; have := hs0.out; have := hs2.out; omega)).on
    by_cases hlt : k < n
    · obtain ⟨A, ⟨⟨t, kk, id⟩, hq, hn, hc, wq, wn, wc⟩, d, hqA, hV, hd, hond, hcA⟩ := hon.out.at hlt
      subst hqA
      have hcell : Hid (∀ j' v, ([.int .i64 t, .bool kk, .int .u16 id, .slice hq hn hc, .slice wq wn wc] : List Value)[j']? = some v → wo.cell? ((A.add (k * 5)).add j') = some v) := fun j' v hj => cell_kept hbo.out (Nat.le_refl _) (hcA j' v hj)
      have s5 := sizeQue (.int .i64 t) (.bool kk) (.int .u16 id) (.slice hq hn hc) (.slice wq wn wc)
      have i0 : (0 : Int) ≤ k := by omega
      have i1 : (k : Int) < n := by omega
      obtain ⟨WA, hWA⟩ : ∃ W', wo.alloc (.cells #[.int .i64 t, .bool kk, .int .u16 id, .slice hq hn hc, .slice wq wn wc] 43) = W' := ⟨_, rfl⟩
      have hbA := Lib.hid (one_box (xs := [.int .i64 t, .bool kk, .int .u16 id, .slice hq hn hc, .slice wq wn wc]) hWA)
      have hrA : Hid (RowV 43 WA wo.heap.size [.int .i64 t, .bool kk, .int .u16 id, .slice hq hn hc, .slice wq wn wc]) := RowV.made' (cs := [.int .i64 t, .bool kk, .int .u16 id, .slice hq hn hc, .slice wq wn wc]) hWA
      have hd' := Lib.hid hd
      have hond' := Lib.hid (hond.below hbo.out (Nat.le_refl _))
      clear hcA hV hd hond
      by_cases h5 : k = 501
      · have h501 : (k : Int) > 500 := by omega
        obtain ⟨_, e1, e2, e3, _⟩ := hend.out (.inr h5) WA hbA.out.1
        clear h5
        have e1' := Lib.hid e1
        have e2' := Lib.hid e2
        have e3' := Lib.hid e3
        have s1 := sizeLks (.slice qo k co)
        have hone : ∀ y ∈ ([.slice qo k co] : List Value), y.oneCell' = true := fun y hy => by obtain rfl := List.mem_singleton.1 hy; rfl
        clear e1 e2 e3
        go_wp2_with (first
          | (with_reducible refine wpList_load_at rfl 43 (.tmp 12) rfl Tryz.underlying43 rfl s5 rfl hcell.out ?_)
          | (with_reducible refine wpList_load_at rfl 24 (.tmp 3) rfl Tryz.underlying24 rfl s1 rfl e2'.out.boxed.all ?_)
          | ((with_reducible refine wpList_store_at rfl 24 (.tmp 2) (.tmp 43) rfl (o := 0) (vs := [.slice qo k co]) rfl rfl e1'.out s1 (Nat.le_refl _) hone ?_)
             intro w9 h9 hg9
             have q9 : Hid (RowV 24 w9 W0.heap.size [.slice qo k co]) := h9
             have hfin := Lib.hid (e3'.out w9 hg9)
             clear h9 hg9))
        have m0 := q9.out.cell 0
        simp only [List.getElem?_cons_zero] at m0
        exact bodyPost_ret (v := .agg #[.slice qo k co]) (by simp [results, Tryz.results10, go_sem, m0]) rfl ⟨qo, k, co, Vk, rfl, hfin.out.1, hfin.out.2⟩
      · have h501 : ¬ (k : Int) > 500 := by omega
        go_wp2_with (first
          | (with_reducible refine wpList_load_at rfl 43 (.tmp 12) rfl Tryz.underlying43 rfl s5 rfl hcell.out ?_))
        clear hWA hcell
        obtain ⟨hvr0, hok0, hsO, hwO⟩ := hond'.out
        obtain ⟨m1, hm1e⟩ : ∃ m, m = min hn 20 := ⟨_, rfl⟩
        obtain ⟨m2, hm2e⟩ : ∃ m, m = min wn 20 := ⟨_, rfl⟩
        have hlh := hsO.len
        have hlw := hwO.len
        have hhc : Hid (hn ≤ hc) := hsO.le
        have hwc : Hid (wn ≤ wc) := hwO.le
        have hvr : Hid ((⟨t, kk, id⟩ : ResD) = d.res) := hvr0
        have hok : Hid ((⟨t, kk, id⟩ : ResD).ok) := by show ResD.ok _; rw [hvr.out]; exact hok0
        have hm1 : Hid (min (hn : Int) 20 = (m1 : Int)) := by show _ = _; omega
        have hm2 : Hid (min (wn : Int) 20 = (m2 : Int)) := by show _ = _; omega
        have hm1n : Hid (m1 ≤ hn) := by show _ ≤ _; omega
        have hm2n : Hid (m2 ≤ wn) := by show _ ≤ _; omega
        have hm10 : Hid (m1 ≤ 20) := by show _ ≤ _; omega
        have hm20 : Hid (m2 ≤ 20) := by show _ ≤ _; omega
        have hm1t : Hid (d.hs.take m1 = d.hs.take 20) := by
          show _ = _
          have h0 : d.hs.length = hn := hlh
          rcases Nat.le_total hn 20 with h | h
          · rw [List.take_of_length_le (by omega), List.take_of_length_le (by omega)]
          · rw [show m1 = 20 by omega]
        have hm2t : Hid (d.ws.take m2 = d.ws.take 20) := by
          show _ = _
          have h0 : d.ws.length = wn := hlw
          rcases Nat.le_total wn 20 with h | h
          · rw [List.take_of_length_le (by omega), List.take_of_length_le (by omega)]
          · rw [show m2 = 20 by omega]
        have hzA : Hid (wo.heap.size < WA.heap.size) := by show _ < _; have := hbA.out.2.2; omega
        have hG : Hid (∀ u, Below WA.heap.size WA u → Boxed u wo.heap.size [.int .i64 t, .bool kk, .int .u16 id, .slice hq hn hc, .slice wq wn wc]) := fun u hu => hrA.out.boxed.below hu (Nat.le_refl _)
        have hH0 : Hid (∀ u, Below WA.heap.size WA u → SlOn u hq hn hc d.hs) := fun u hu => hsO.below (below_step hu hbA.out.1) (Nat.le_refl _)
        have hW0 : Hid (∀ u, Below WA.heap.size WA u → SlOn u wq wn wc d.ws) := fun u hu => hwO.below (below_step hu hbA.out.1) (Nat.le_refl _)
        clear hvr0 hok0 hsO hwO hlh hlw hm1e hm2e hond'
        refine wp_region_x (by kernel_rfl) 19 (fun u => Below WA.heap.size WA u) ?_
        change wpAnyX _ _ _ _ _ _ _ _ _ (World.drew WA)
        have b0 : Below WA.heap.size WA (World.drew WA) := below_drew' WA
        refine x_take (i := 1) (dst := some 17) (v := (.pointer (some ⟨wo.heap.size, 3, none⟩))) rfl rfl (by kernel_rfl) (by kernel_rfl) (by kernel_rfl) (by kernel_rfl) (by kernel_rfl) (fun _ _ _ h => h) (.inl ⟨rfl, fun u hu => by go_simp⟩) b0 ?_
        go_frame
        refine x_take (i := 2) (dst := some 18) (v := (.slice hq hn hc)) rfl rfl (by kernel_rfl) (by kernel_rfl) (by kernel_rfl) (by kernel_rfl) (by kernel_rfl) (fun _ _ _ h => h) (.inl ⟨rfl, fun u hu => by have c := (hG.out u hu).cell 3 rfl; go_simp⟩) b0 ?_
        go_frame
        refine x_take (i := 3) (dst := some 19) (v := (.pointer (some ⟨wo.heap.size, 3, none⟩))) rfl rfl (by kernel_rfl) (by kernel_rfl) (by kernel_rfl) (by kernel_rfl) (by kernel_rfl) (fun _ _ _ h => h) (.inl ⟨rfl, fun u hu => by go_simp⟩) b0 ?_
        go_frame
        refine x_take (i := 4) (dst := some 20) (v := (.slice hq hn hc)) rfl rfl (by kernel_rfl) (by kernel_rfl) (by kernel_rfl) (by kernel_rfl) (by kernel_rfl) (fun _ _ _ h => h) (.inl ⟨rfl, fun u hu => by have c := (hG.out u hu).cell 3 rfl; go_simp⟩) b0 ?_
        go_frame
        refine x_take (i := 5) (dst := some 21) (v := (.int .i64 hn)) rfl rfl (by kernel_rfl) (by kernel_rfl) (by kernel_rfl) (by kernel_rfl) (by kernel_rfl) (fun _ _ _ h => h) (.inl ⟨rfl, fun u hu => by go_simp⟩) b0 ?_
        go_frame
        refine x_take (i := 6) (dst := some 22) (v := (.int .i64 m1)) rfl rfl (by kernel_rfl) (by kernel_rfl) (by kernel_rfl) (by kernel_rfl) (by kernel_rfl) (fun _ _ _ h => h) (.inl ⟨rfl, fun u hu => by go_simp; exact hm1.out⟩) b0 ?_
        go_frame
        refine x_take (i := 7) (dst := some 23) (v := (.slice hq m1 hc)) rfl rfl (by kernel_rfl) (by kernel_rfl) (by kernel_rfl) (by kernel_rfl) (by kernel_rfl) (fun _ _ _ h => h) (.inl ⟨rfl, fun u hu => by have c := slice_h hq hn hc m1 hm1n.out hhc.out u; go_simp⟩) b0 ?_
        go_frame
        refine x_take (i := 10) (dst := some 26) (v := (.pointer (some ⟨wo.heap.size, 4, none⟩))) rfl rfl (by kernel_rfl) (by kernel_rfl) (by kernel_rfl) (by kernel_rfl) (by kernel_rfl) (fun _ _ _ h => h) (.inl ⟨rfl, fun u hu => by go_simp⟩) b0 ?_
        go_frame
        refine x_take (i := 11) (dst := some 27) (v := (.slice wq wn wc)) rfl rfl (by kernel_rfl) (by kernel_rfl) (by kernel_rfl) (by kernel_rfl) (by kernel_rfl) (fun _ _ _ h => h) (.inl ⟨rfl, fun u hu => by have c := (hG.out u hu).cell 4 rfl; go_simp⟩) b0 ?_
        go_frame
        refine x_take (i := 12) (dst := some 28) (v := (.pointer (some ⟨wo.heap.size, 4, none⟩))) rfl rfl (by kernel_rfl) (by kernel_rfl) (by kernel_rfl) (by kernel_rfl) (by kernel_rfl) (fun _ _ _ h => h) (.inl ⟨rfl, fun u hu => by go_simp⟩) b0 ?_
        go_frame
        refine x_take (i := 13) (dst := some 29) (v := (.slice wq wn wc)) rfl rfl (by kernel_rfl) (by kernel_rfl) (by kernel_rfl) (by kernel_rfl) (by kernel_rfl) (fun _ _ _ h => h) (.inl ⟨rfl, fun u hu => by have c := (hG.out u hu).cell 4 rfl; go_simp⟩) b0 ?_
        go_frame
        refine x_pure (i := 14) (dst := some 30) (v := (.int .i64 wn)) rfl rfl (by kernel_rfl) (by kernel_rfl) (by kernel_rfl) (by kernel_rfl) (fun _ _ _ h => h) (.inl ⟨rfl, fun u hu => by go_simp⟩) (fun _ => b0) ?_
        go_frame
        refine x_pure (i := 15) (dst := some 31) (v := (.int .i64 m2)) rfl rfl (by kernel_rfl) (by kernel_rfl) (by kernel_rfl) (by kernel_rfl) (fun _ _ _ h => h) (.inl ⟨rfl, fun u hu => by go_simp; exact hm2.out⟩) (fun _ => b0) ?_
        go_frame
        refine x_pure (i := 16) (dst := some 32) (v := (.slice wq m2 wc)) rfl rfl (by kernel_rfl) (by kernel_rfl) (by kernel_rfl) (by kernel_rfl) (fun _ _ _ h => h) (.inl ⟨rfl, fun u hu => by have c := slice_w wq wn wc m2 hm2n.out hwc.out u; go_simp⟩) (fun _ => b0) ?_
        go_frame
        have bb_u0 := b0
        clear b0
        generalize World.drew WA = u0 at bb_u0 ⊢
        refine x_two (i := 0) (j := 9) (di := some 16) (dj := some 25) rfl rfl rfl rfl (by kernel_rfl) rfl rfl ?_ ?_
        · obtain ⟨u1, hu1⟩ : ∃ x, u0.alloc (.cells #[] 45) = x := ⟨_, rfl⟩
          have bb_u1 : Below WA.heap.size WA u1 := by rw [← hu1]; exact bb_u0.alloc bb_u0.size _
          refine EndsV.mk' (w' := u1) (v := .slice (some ⟨u0.heap.size, 0, none⟩) 0 0) (by rw [← hu1]; go_simp) ⟨bb_u1, ?_⟩
          go_frame
          have o1 := OwnS.mono (OwnS.empty (α := HoldD) hu1 rfl) bb_u0.size
          refine x_two (i := 8) (j := 9) (di := some 24) (dj := some 25) rfl rfl rfl rfl (by kernel_rfl) rfl rfl ?_ ?_
          · obtain ⟨qh, ch, u2, r8, bb_u2, o2, g2, q2⟩ := fill_h bb_u1 o1 ((hH0.out _ bb_u1).front hm1n.out) hm10.out
            refine EndsV.mk' (run_append_op (s := .tmp 16) (x := .tmp 23) rfl rfl rfl r8) ⟨bb_u2, ?_⟩
            go_frame
            refine x_pure (i := 18) (dst := some 34) (v := (.pointer (some ⟨wo.heap.size, 3, none⟩))) rfl rfl (by kernel_rfl) (by kernel_rfl) (by kernel_rfl) (by kernel_rfl) (fun _ _ _ h => h) (.inl ⟨rfl, fun u hu => by go_simp⟩) (fun _ => bb_u2) ?_
            go_frame
            obtain ⟨u3, hu3⟩ : ∃ x, u2.alloc (.cells #[] 47) = x := ⟨_, rfl⟩
            have t3 := way_1 bb_u2 o2 hu3
            refine x_value (i := 9) (dst := some 25) (w' := u3) (v := .slice (some ⟨u2.heap.size, 0, none⟩) 0 0) rfl rfl (by kernel_rfl) rfl (by rw [← hu3]; go_simp) (fun _ => t3.bl) ?_
            go_frame
            clear r8 o1 o2 g2 q2 hu1 hu3
            obtain ⟨qw, cw, u4, r17, t4⟩ := fill_w t3 ((hW0.out _ t3.bl).front hm2n.out) hm20.out
            refine x_value (i := 17) (dst := some 33) (w' := u4) rfl rfl (by kernel_rfl) rfl (run_append_op (s := .tmp 25) (x := .tmp 32) rfl rfl rfl r17) (fun _ => t4.bl) ?_
            go_frame
            obtain ⟨u5, h5⟩ : ∃ x, u4.setCell ⟨wo.heap.size, 3, none⟩ (.slice qh m1 ch) = x := ⟨_, rfl⟩
            obtain ⟨u6, h6⟩ : ∃ x, u5.setCell ⟨wo.heap.size, 4, none⟩ (.slice qw m2 cw) = x := ⟨_, rfl⟩
            have hf6 := Lib.hid (fin6 t4 hzA.out hbA.out.1 hrA.out hok.out h5 h6)
            have g4 := hrA.out.below t4.bl
            have c4 : u4.cell? ⟨wo.heap.size, 3, none⟩ = some (.slice hq hn hc) := g4.cell 3
            have f4 : u4.frozen? ⟨wo.heap.size, 3, none⟩ = false := g4.free 3
            have g5 := g4.set 3 (.slice qh m1 ch)
            rw [h5] at g5
            have c5 : u5.cell? ⟨wo.heap.size, 4, none⟩ = some (.slice wq wn wc) := g5.cell 4
            have f5 : u5.frozen? ⟨wo.heap.size, 4, none⟩ = false := g5.free 4
            have st4 : (storeVar 40 ⟨wo.heap.size, 3, none⟩ (.slice qh m1 ch)).run Tryz.prog u4 = .ok () u5 := by rw [← h5]; go_simp
            have st5 : (storeVar 41 ⟨wo.heap.size, 4, none⟩ (.slice qw m2 cw)).run Tryz.prog u5 = .ok () u6 := by rw [← h6]; go_simp
            refine x_skip (i := 19) (dst := none) rfl rfl (by kernel_rfl) rfl (run_store_op (x := .tmp 34) (y := .tmp 24) rfl rfl rfl st4) (no_x (by kernel_rfl)) ?_
            go_frame
            refine x_pure (i := 20) (dst := some 35) (v := (.pointer (some ⟨wo.heap.size, 4, none⟩))) rfl rfl (by kernel_rfl) (by kernel_rfl) (by kernel_rfl) (by kernel_rfl) (fun _ _ _ h => h) (.inl ⟨rfl, fun u hu => by go_simp⟩) (no_x (by kernel_rfl)) ?_
            go_frame
            refine x_skip (i := 21) (dst := none) rfl rfl (by kernel_rfl) rfl (run_store_op (x := .tmp 35) (y := .tmp 33) rfl rfl rfl st5) (no_x (by kernel_rfl)) ?_
            go_frame
            refine x_done (by kernel_rfl) ?_
            clear h5 h6 c4 f4 g4 g5 c5 f5 st4 st5 r17 t4 t3
            obtain ⟨b6, r6, o6⟩ := hf6.out
            have b6' := Lib.hid b6
            have o6' := Lib.hid o6
            have r6' := Lib.hid r6
            have box6 := Lib.hid (hr.out.box.below b6)
            have s6 := sizeQue (.int .i64 t) (.bool kk) (.int .u16 id) (.slice qh m1 ch) (.slice qw m2 cw)
            have k6 : u6.cell? ⟨W1.heap.size, 0, none⟩ = some (.slice qo k co) := box6.out.cell 0
            obtain ⟨WB, hWB⟩ : ∃ x, u6.alloc (.cells #[.int .i64 t, .bool kk, .int .u16 id, .slice qh m1 ch, .slice qw m2 cw] 43) = x := ⟨_, rfl⟩
            have hbB := Lib.hid (one_box (xs := [.int .i64 t, .bool kk, .int .u16 id, .slice qh m1 ch, .slice qw m2 cw]) hWB)
            have hrB : Hid (RowV 43 WB u6.heap.size (Cel.cells (⟨⟨t, kk, id⟩, qh, m1, ch, qw, m2, cw⟩ : QV))) := RowV.made' hWB
            have own : Hid (OwnS 43 WB W.heap.size (.slice qo k co) Vk) := (hr.out.row.below b6).below hbB.out.1
            have lit := Lib.hid (OwnS.single hrB.out).reads
            have bx7 := Lib.hid (box6.out.below hbB.out.1)
            have hzB : Hid (W.heap.size ≤ WB.heap.size) := by show _ ≤ _; have h1 := hr.out.fr.size; have h2 := b6.size; have h3 := hbB.out.2.2; omega
            clear b6 r6 o6 hf6
            go_wp2_with (first
              | (with_reducible refine wpList_load_at rfl 43 (.tmp 5) rfl Tryz.underlying43 rfl s6 rfl r6'.out.boxed.all ?_)
              | (at_builtin
                 refine wpList_append_l Tryz.underlying22 infoQue rfl rfl (.tmp 37) (.tmp 39) rfl rfl rfl own.out lit.out (by omega) (by omega) hzB.out ?_
                 intro qo' co' u7 row7 hg7 hq7
                 have row7' := Lib.hid row7
                 have hg7' := Lib.hid hg7
                 have hq7' := Lib.hid hq7
                 have x7 : Hid (RowV 24 u7 W1.heap.size [.slice qo k co]) := bx7.out.block (hg7.block _ bx7.out.lt (fun e => by
                   cases hqq : qo with
                   | none => rw [hqq] at e; cases e
                   | some a =>
                     rw [hqq] at e
                     have e2 : W1.heap.size = a.block := by simpa using e
                     have := (hr.out.row.far a hqq).1
                     have := hB3.out
                     omega))
                 have c7 : u7.cell? ⟨W1.heap.size, 0, none⟩ = some (.slice qo k co) := x7.out.cell 0
                 have f7 : u7.frozen? ⟨W1.heap.size, 0, none⟩ = false := x7.out.free 0
                 clear row7 hg7 hq7 k6))
            go_roundw
            case rel =>
              have x8 := x7.out.set 0 (.slice qo' (k + 1) co')
              refine ⟨k + 1, qo', co', Vk ++ [⟨⟨t, kk, id⟩, qh, m1, ch, qw, m2, cw⟩], by omega, by omega, by go_num, ?_⟩
              refine FwR.step hr.out hB3.out (by have := hl.out; omega) hd'.out (below_step hbB.out.1 b6'.out) ?_ row7'.out hg7'.out hq7'.out (setCell_grown u7 W1.heap.size _ _) x8
              have h1 := (o6'.out.fr (S := fun _ => False) (Fr.of_below hbB.out.1) (fun _ _ e => e))
              unfold fewD
              rw [← hvr.out, ← hm1t.out, ← hm2t.out]
              exact h1
            case measure => simp [intOf]; omega
          · obtain ⟨u2, hu2⟩ : ∃ x, u1.alloc (.cells #[] 47) = x := ⟨_, rfl⟩
            have bb_u2 : Below WA.heap.size WA u2 := by rw [← hu2]; exact bb_u1.alloc bb_u1.size _
            refine EndsV.mk' (w' := u2) (v := .slice (some ⟨u1.heap.size, 0, none⟩) 0 0) (by rw [← hu2]; go_simp) ⟨bb_u2, ?_⟩
            go_frame
            have w2 := OwnS.mono (OwnS.empty (α := WaitD) hu2 rfl) bb_u1.size
            have o2 := o1.below (w' := u2) (by rw [← hu2]; exact (Below.refl _ _).alloc (Nat.le_refl _) _)
            have hlt := (o1.far _ rfl).2
            obtain ⟨qh, ch, u3, r8, bb_u3, o3, g3, q3⟩ := fill_h bb_u2 o2 ((hH0.out _ bb_u2).front hm1n.out) hm10.out
            have t3 := way_2 w2 (Nat.ne_of_lt hlt) bb_u3 o3 g3 q3
            refine x_value (i := 8) (dst := some 24) (w' := u3) rfl rfl (by kernel_rfl) rfl (run_append_op (s := .tmp 16) (x := .tmp 23) rfl rfl rfl r8) (fun _ => bb_u3) ?_
            go_frame
            refine x_pure (i := 18) (dst := some 34) (v := (.pointer (some ⟨wo.heap.size, 3, none⟩))) rfl rfl (by kernel_rfl) (by kernel_rfl) (by kernel_rfl) (by kernel_rfl) (fun _ _ _ h => h) (.inl ⟨rfl, fun u hu => by go_simp⟩) (fun _ => bb_u3) ?_
            go_frame
            clear r8 o1 o2 o3 g3 q3 hu1 hu2 w2 hlt
            obtain ⟨qw, cw, u4, r17, t4⟩ := fill_w t3 ((hW0.out _ t3.bl).front hm2n.out) hm20.out
            refine x_value (i := 17) (dst := some 33) (w' := u4) rfl rfl (by kernel_rfl) rfl (run_append_op (s := .tmp 25) (x := .tmp 32) rfl rfl rfl r17) (fun _ => t4.bl) ?_
            go_frame
            obtain ⟨u5, h5⟩ : ∃ x, u4.setCell ⟨wo.heap.size, 3, none⟩ (.slice qh m1 ch) = x := ⟨_, rfl⟩
            obtain ⟨u6, h6⟩ : ∃ x, u5.setCell ⟨wo.heap.size, 4, none⟩ (.slice qw m2 cw) = x := ⟨_, rfl⟩
            have hf6 := Lib.hid (fin6 t4 hzA.out hbA.out.1 hrA.out hok.out h5 h6)
            have g4 := hrA.out.below t4.bl
            have c4 : u4.cell? ⟨wo.heap.size, 3, none⟩ = some (.slice hq hn hc) := g4.cell 3
            have f4 : u4.frozen? ⟨wo.heap.size, 3, none⟩ = false := g4.free 3
            have g5 := g4.set 3 (.slice qh m1 ch)
            rw [h5] at g5
            have c5 : u5.cell? ⟨wo.heap.size, 4, none⟩ = some (.slice wq wn wc) := g5.cell 4
            have f5 : u5.frozen? ⟨wo.heap.size, 4, none⟩ = false := g5.free 4
            have st4 : (storeVar 40 ⟨wo.heap.size, 3, none⟩ (.slice qh m1 ch)).run Tryz.prog u4 = .ok () u5 := by rw [← h5]; go_simp
            have st5 : (storeVar 41 ⟨wo.heap.size, 4, none⟩ (.slice qw m2 cw)).run Tryz.prog u5 = .ok () u6 := by rw [← h6]; go_simp
            refine x_skip (i := 19) (dst := none) rfl rfl (by kernel_rfl) rfl (run_store_op (x := .tmp 34) (y := .tmp 24) rfl rfl rfl st4) (no_x (by kernel_rfl)) ?_
            go_frame
            refine x_pure (i := 20) (dst := some 35) (v := (.pointer (some ⟨wo.heap.size, 4, none⟩))) rfl rfl (by kernel_rfl) (by kernel_rfl) (by kernel_rfl) (by kernel_rfl) (fun _ _ _ h => h) (.inl ⟨rfl, fun u hu => by go_simp⟩) (no_x (by kernel_rfl)) ?_
            go_frame
            refine x_skip (i := 21) (dst := none) rfl rfl (by kernel_rfl) rfl (run_store_op (x := .tmp 35) (y := .tmp 33) rfl rfl rfl st5) (no_x (by kernel_rfl)) ?_
            go_frame
            refine x_done (by kernel_rfl) ?_
            clear h5 h6 c4 f4 g4 g5 c5 f5 st4 st5 r17 t4 t3
            obtain ⟨b6, r6, o6⟩ := hf6.out
            have b6' := Lib.hid b6
            have o6' := Lib.hid o6
            have r6' := Lib.hid r6
            have box6 := Lib.hid (hr.out.box.below b6)
            have s6 := sizeQue (.int .i64 t) (.bool kk) (.int .u16 id) (.slice qh m1 ch) (.slice qw m2 cw)
            have k6 : u6.cell? ⟨W1.heap.size, 0, none⟩ = some (.slice qo k co) := box6.out.cell 0
            obtain ⟨WB, hWB⟩ : ∃ x, u6.alloc (.cells #[.int .i64 t, .bool kk, .int .u16 id, .slice qh m1 ch, .slice qw m2 cw] 43) = x := ⟨_, rfl⟩
            have hbB := Lib.hid (one_box (xs := [.int .i64 t, .bool kk, .int .u16 id, .slice qh m1 ch, .slice qw m2 cw]) hWB)
            have hrB : Hid (RowV 43 WB u6.heap.size (Cel.cells (⟨⟨t, kk, id⟩, qh, m1, ch, qw, m2, cw⟩ : QV))) := RowV.made' hWB
            have own : Hid (OwnS 43 WB W.heap.size (.slice qo k co) Vk) := (hr.out.row.below b6).below hbB.out.1
            have lit := Lib.hid (OwnS.single hrB.out).reads
            have bx7 := Lib.hid (box6.out.below hbB.out.1)
            have hzB : Hid (W.heap.size ≤ WB.heap.size) := by show _ ≤ _; have h1 := hr.out.fr.size; have h2 := b6.size; have h3 := hbB.out.2.2; omega
            clear b6 r6 o6 hf6
            go_wp2_with (first
              | (with_reducible refine wpList_load_at rfl 43 (.tmp 5) rfl Tryz.underlying43 rfl s6 rfl r6'.out.boxed.all ?_)
              | (at_builtin
                 refine wpList_append_l Tryz.underlying22 infoQue rfl rfl (.tmp 37) (.tmp 39) rfl rfl rfl own.out lit.out (by omega) (by omega) hzB.out ?_
                 intro qo' co' u7 row7 hg7 hq7
                 have row7' := Lib.hid row7
                 have hg7' := Lib.hid hg7
                 have hq7' := Lib.hid hq7
                 have x7 : Hid (RowV 24 u7 W1.heap.size [.slice qo k co]) := bx7.out.block (hg7.block _ bx7.out.lt (fun e => by
                   cases hqq : qo with
                   | none => rw [hqq] at e; cases e
                   | some a =>
                     rw [hqq] at e
                     have e2 : W1.heap.size = a.block := by simpa using e
                     have := (hr.out.row.far a hqq).1
                     have := hB3.out
                     omega))
                 have c7 : u7.cell? ⟨W1.heap.size, 0, none⟩ = some (.slice qo k co) := x7.out.cell 0
                 have f7 : u7.frozen? ⟨W1.heap.size, 0, none⟩ = false := x7.out.free 0
                 clear row7 hg7 hq7 k6))
            go_roundw
            case rel =>
              have x8 := x7.out.set 0 (.slice qo' (k + 1) co')
              refine ⟨k + 1, qo', co', Vk ++ [⟨⟨t, kk, id⟩, qh, m1, ch, qw, m2, cw⟩], by omega, by omega, by go_num, ?_⟩
              refine FwR.step hr.out hB3.out (by have := hl.out; omega) hd'.out (below_step hbB.out.1 b6'.out) ?_ row7'.out hg7'.out hq7'.out (setCell_grown u7 W1.heap.size _ _) x8
              have h1 := (o6'.out.fr (S := fun _ => False) (Fr.of_below hbB.out.1) (fun _ _ e => e))
              unfold fewD
              rw [← hvr.out, ← hm1t.out, ← hm2t.out]
              exact h1
            case measure => simp [intOf]; omega
        · obtain ⟨u1, hu1⟩ : ∃ x, u0.alloc (.cells #[] 47) = x := ⟨_, rfl⟩
          have bb_u1 : Below WA.heap.size WA u1 := by rw [← hu1]; exact bb_u0.alloc bb_u0.size _
          refine EndsV.mk' (w' := u1) (v := .slice (some ⟨u0.heap.size, 0, none⟩) 0 0) (by rw [← hu1]; go_simp) ⟨bb_u1, ?_⟩
          go_frame
          have w1 := OwnS.mono (OwnS.empty (α := WaitD) hu1 rfl) bb_u0.size
          obtain ⟨u2, hu2⟩ : ∃ x, u1.alloc (.cells #[] 45) = x := ⟨_, rfl⟩
          have bb_u2 : Below WA.heap.size WA u2 := by rw [← hu2]; exact bb_u1.alloc bb_u1.size _
          have o2 := OwnS.mono (OwnS.empty (α := HoldD) hu2 rfl) bb_u1.size
          have w2 := w1.below (w' := u2) (by rw [← hu2]; exact (Below.refl _ _).alloc (Nat.le_refl _) _)
          have hlt := (w1.far _ rfl).2
          refine x_value (i := 0) (dst := some 16) (w' := u2) (v := .slice (some ⟨u1.heap.size, 0, none⟩) 0 0) rfl rfl (by kernel_rfl) rfl (by rw [← hu2]; go_simp) (fun _ => bb_u2) ?_
          go_frame
          obtain ⟨qh, ch, u3, r8, bb_u3, o3, g3, q3⟩ := fill_h bb_u2 o2 ((hH0.out _ bb_u2).front hm1n.out) hm10.out
          have t3 := way_2 w2 (Nat.ne_of_gt hlt) bb_u3 o3 g3 q3
          refine x_value (i := 8) (dst := some 24) (w' := u3) rfl rfl (by kernel_rfl) rfl (run_append_op (s := .tmp 16) (x := .tmp 23) rfl rfl rfl r8) (fun _ => bb_u3) ?_
          go_frame
          refine x_pure (i := 18) (dst := some 34) (v := (.pointer (some ⟨wo.heap.size, 3, none⟩))) rfl rfl (by kernel_rfl) (by kernel_rfl) (by kernel_rfl) (by kernel_rfl) (fun _ _ _ h => h) (.inl ⟨rfl, fun u hu => by go_simp⟩) (fun _ => bb_u3) ?_
          go_frame
          clear r8 o2 o3 g3 q3 hu1 hu2 w1 w2 hlt
          obtain ⟨qw, cw, u4, r17, t4⟩ := fill_w t3 ((hW0.out _ t3.bl).front hm2n.out) hm20.out
          refine x_value (i := 17) (dst := some 33) (w' := u4) rfl rfl (by kernel_rfl) rfl (run_append_op (s := .tmp 25) (x := .tmp 32) rfl rfl rfl r17) (fun _ => t4.bl) ?_
          go_frame
          obtain ⟨u5, h5⟩ : ∃ x, u4.setCell ⟨wo.heap.size, 3, none⟩ (.slice qh m1 ch) = x := ⟨_, rfl⟩
          obtain ⟨u6, h6⟩ : ∃ x, u5.setCell ⟨wo.heap.size, 4, none⟩ (.slice qw m2 cw) = x := ⟨_, rfl⟩
          have hf6 := Lib.hid (fin6 t4 hzA.out hbA.out.1 hrA.out hok.out h5 h6)
          have g4 := hrA.out.below t4.bl
          have c4 : u4.cell? ⟨wo.heap.size, 3, none⟩ = some (.slice hq hn hc) := g4.cell 3
          have f4 : u4.frozen? ⟨wo.heap.size, 3, none⟩ = false := g4.free 3
          have g5 := g4.set 3 (.slice qh m1 ch)
          rw [h5] at g5
          have c5 : u5.cell? ⟨wo.heap.size, 4, none⟩ = some (.slice wq wn wc) := g5.cell 4
          have f5 : u5.frozen? ⟨wo.heap.size, 4, none⟩ = false := g5.free 4
          have st4 : (storeVar 40 ⟨wo.heap.size, 3, none⟩ (.slice qh m1 ch)).run Tryz.prog u4 = .ok () u5 := by rw [← h5]; go_simp
          have st5 : (storeVar 41 ⟨wo.heap.size, 4, none⟩ (.slice qw m2 cw)).run Tryz.prog u5 = .ok () u6 := by rw [← h6]; go_simp
          refine x_skip (i := 19) (dst := none) rfl rfl (by kernel_rfl) rfl (run_store_op (x := .tmp 34) (y := .tmp 24) rfl rfl rfl st4) (no_x (by kernel_rfl)) ?_
          go_frame
          refine x_pure (i := 20) (dst := some 35) (v := (.pointer (some ⟨wo.heap.size, 4, none⟩))) rfl rfl (by kernel_rfl) (by kernel_rfl) (by kernel_rfl) (by kernel_rfl) (fun _ _ _ h => h) (.inl ⟨rfl, fun u hu => by go_simp⟩) (no_x (by kernel_rfl)) ?_
          go_frame
          refine x_skip (i := 21) (dst := none) rfl rfl (by kernel_rfl) rfl (run_store_op (x := .tmp 35) (y := .tmp 33) rfl rfl rfl st5) (no_x (by kernel_rfl)) ?_
          go_frame
          refine x_done (by kernel_rfl) ?_
          clear h5 h6 c4 f4 g4 g5 c5 f5 st4 st5 r17 t4 t3
          obtain ⟨b6, r6, o6⟩ := hf6.out
          have b6' := Lib.hid b6
          have o6' := Lib.hid o6
          have r6' := Lib.hid r6
          have box6 := Lib.hid (hr.out.box.below b6)
          have s6 := sizeQue (.int .i64 t) (.bool kk) (.int .u16 id) (.slice qh m1 ch) (.slice qw m2 cw)
          have k6 : u6.cell? ⟨W1.heap.size, 0, none⟩ = some (.slice qo k co) := box6.out.cell 0
          obtain ⟨WB, hWB⟩ : ∃ x, u6.alloc (.cells #[.int .i64 t, .bool kk, .int .u16 id, .slice qh m1 ch, .slice qw m2 cw] 43) = x := ⟨_, rfl⟩
          have hbB := Lib.hid (one_box (xs := [.int .i64 t, .bool kk, .int .u16 id, .slice qh m1 ch, .slice qw m2 cw]) hWB)
          have hrB : Hid (RowV 43 WB u6.heap.size (Cel.cells (⟨⟨t, kk, id⟩, qh, m1, ch, qw, m2, cw⟩ : QV))) := RowV.made' hWB
          have own : Hid (OwnS 43 WB W.heap.size (.slice qo k co) Vk) := (hr.out.row.below b6).below hbB.out.1
          have lit := Lib.hid (OwnS.single hrB.out).reads
          have bx7 := Lib.hid (box6.out.below hbB.out.1)
          have hzB : Hid (W.heap.size ≤ WB.heap.size) := by show _ ≤ _; have h1 := hr.out.fr.size; have h2 := b6.size; have h3 := hbB.out.2.2; omega
          clear b6 r6 o6 hf6
          go_wp2_with (first
            | (with_reducible refine wpList_load_at rfl 43 (.tmp 5) rfl Tryz.underlying43 rfl s6 rfl r6'.out.boxed.all ?_)
            | (at_builtin
               refine wpList_append_l Tryz.underlying22 infoQue rfl rfl (.tmp 37) (.tmp 39) rfl rfl rfl own.out lit.out (by omega) (by omega) hzB.out ?_
               intro qo' co' u7 row7 hg7 hq7
               have row7' := Lib.hid row7
               have hg7' := Lib.hid hg7
               have hq7' := Lib.hid hq7
               have x7 : Hid (RowV 24 u7 W1.heap.size [.slice qo k co]) := bx7.out.block (hg7.block _ bx7.out.lt (fun e => by
                 cases hqq : qo with
                 | none => rw [hqq] at e; cases e
                 | some a =>
                   rw [hqq] at e
                   have e2 : W1.heap.size = a.block := by simpa using e
                   have := (hr.out.row.far a hqq).1
                   have := hB3.out
                   omega))
               have c7 : u7.cell? ⟨W1.heap.size, 0, none⟩ = some (.slice qo k co) := x7.out.cell 0
               have f7 : u7.frozen? ⟨W1.heap.size, 0, none⟩ = false := x7.out.free 0
               clear row7 hg7 hq7 k6))
          go_roundw
          case rel =>
            have x8 := x7.out.set 0 (.slice qo' (k + 1) co')
            refine ⟨k + 1, qo', co', Vk ++ [⟨⟨t, kk, id⟩, qh, m1, ch, qw, m2, cw⟩], by omega, by omega, by go_num, ?_⟩
            refine FwR.step hr.out hB3.out (by have := hl.out; omega) hd'.out (below_step hbB.out.1 b6'.out) ?_ row7'.out hg7'.out hq7'.out (setCell_grown u7 W1.heap.size _ _) x8
            have h1 := (o6'.out.fr (S := fun _ => False) (Fr.of_below hbB.out.1) (fun _ _ e => e))
            unfold fewD
            rw [← hvr.out, ← hm1t.out, ← hm2t.out]
            exact h1
          case measure => simp [intOf]; omega
    · obtain rfl : n = k := by omega
      obtain ⟨_, e1, e2, e3, _⟩ := hend.out (.inl rfl) wo (Below.refl _ _)
      have e1' := Lib.hid e1
      have e2' := Lib.hid e2
      have e3' := Lib.hid e3
      have s1 := sizeLks (.slice qo n co)
      have hone : ∀ y ∈ ([.slice qo n co] : List Value), y.oneCell' = true := fun y hy => by obtain rfl := List.mem_singleton.1 hy; rfl
      clear e1 e2 e3
      go_wp2_with (first
        | (with_reducible refine wpList_load_at rfl 24 (.tmp 3) rfl Tryz.underlying24 rfl s1 rfl e2'.out.boxed.all ?_)
        | ((with_reducible refine wpList_store_at rfl 24 (.tmp 2) (.tmp 43) rfl (o := 0) (vs := [.slice qo n co]) rfl rfl e1'.out s1 (Nat.le_refl _) hone ?_)
           intro w9 h9 hg9
           have q9 : Hid (RowV 24 w9 W0.heap.size [.slice qo n co]) := h9
           have hfin := Lib.hid (e3'.out w9 hg9)
           clear h9 hg9))
      have m0 := q9.out.cell 0
      simp only [List.getElem?_cons_zero] at m0
      exact bodyPost_ret (v := .agg #[.slice qo n co]) (by simp [results, Tryz.results10, go_sem, m0]) rfl ⟨qo, n, co, Vk, rfl, hfin.out.1, hfin.out.2⟩
end Go.Proofs.YtbgpppbcffpdbaaGreatDoor
