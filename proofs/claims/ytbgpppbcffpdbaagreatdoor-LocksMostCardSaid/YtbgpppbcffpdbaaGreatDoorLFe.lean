/- few of the laws on locks. -/
import Derived.Test.YtbgpppbcffpdbaaGreatDoorLSx
import Derived.Test.YtbgpppbcffpdbaaGreatDoorLGe
import Derived.Test.YtbgpppbcffpdbaaGreatDoorLRe
namespace Go.Proofs.YtbgpppbcffpdbaaGreatDoor
open Go.RowKit

def fewD (d : QueD) : QueD := ⟨d.res, d.hs.take 20, d.ws.take 20⟩
set_option maxRecDepth 100000 in
theorem slice_w (p : Option Addr) (n c k : Nat) (hk : k ≤ n) (hn : n ≤ c) (u : World) : (Instr.slice 41 (.slice p n c) none (some (.int .i64 (k : Int))) none).run Tryz.prog u = .ok (.slice p k c) u := by
  have h := run_slice_h (P := Tryz.prog) u 41 p n c (by kernel_rfl) .i64 (k : Int) (by omega) (by omega)
  rw [h, show (sizeOf (Tryz.prog.elem 41)).run Tryz.prog u = .ok 3 u by kernel_rfl]
  simp only [Result.andThen, sliced, Int.toNat_natCast, Nat.zero_mul, Nat.sub_zero]
  congr 2
  split
  · rfl
  · cases p <;> simp [Addr.add]

/-- how far they are copied -/
structure FwR (W : World) (B3 : Nat) (L : List QueD) (k : Nat) (qo : Option Addr) (co : Nat) (Vk : List QV) (wr : World) : Prop where
  row : OwnS 43 wr W.heap.size (.slice qo k co) Vk
  on : ∀ (j : Nat) v d, Vk[j]? = some v → L[j]? = some d → QO wr W.heap.size v (fewD d)
  ne : ∀ a, qo = some a → a.block ∉ bl Vk
  box : RowV 24 wr B3 [.slice qo k co]
  fr : Fr (fun j => j = B3) W wr
theorem FwR.lt {W wr : World} {B3 k co : Nat} {L : List QueD} {qo : Option Addr} {Vk : List QV} (h : FwR W B3 L k qo co Vk wr) (hl : k ≤ L.length) : ∀ b ∈ bl Vk, W.heap.size ≤ b ∧ b < wr.heap.size := fun b hb => by
  obtain ⟨i, v, hv, hb⟩ := bl_or hb
  have hvl := h.row.len
  have hi := (List.getElem?_eq_some_iff.1 hv).1
  exact (h.on i v _ hv (List.getElem?_eq_getElem (by omega))).lt b hb
theorem FwR.step {W wr u6 u7 : World} {B3 k co co' : Nat} {L : List QueD} {qo qo' : Option Addr} {Vk : List QV} {d : QueD} {v : QV} (h : FwR W B3 L k qo co Vk wr) (hB : B3 < W.heap.size) (hl : k < L.length) (hd : L[k]? = some d)
    (hb6 : Below wr.heap.size wr u6) (hv : QO u6 wr.heap.size v (fewD d)) (row7 : OwnS 43 u7 W.heap.size (.slice qo' (k + 1) co') (Vk ++ [v])) (hg7 : u6.grownBy u7 (qo.map (·.block))) (hq7 : qo'.map (·.block) = qo.map (·.block) ∨ qo'.map (·.block) = some u6.heap.size) {u8 : World} (hg8 : u7.grownBy u8 (some B3)) (box8 : RowV 24 u8 B3 [.slice qo' (k + 1) co']) :
    FwR W B3 L (k + 1) qo' co' (Vk ++ [v]) u8 := by
  have hvl : Vk.length = k := h.row.len.symm
  have hlt := h.lt (Nat.le_of_lt hl)
  have hz := hb6.size
  have hzW := h.fr.size
  have hf78 : Fr (fun j => some j = qo.map (·.block) ∨ j = B3) u6 u8 := (Fr.of_grown hg7 (fun j e => .inl e.symm)).trans (Fr.of_grown hg8 (fun j e => by cases e; exact .inr rfl))
  have hqf := h.row.far
  have hneB : ∀ a, qo' = some a → some a.block ≠ some B3 := fun a ha e => by
    have e2 : a.block = B3 := by simpa using e
    have := (row7.far a ha).1
    omega
  refine ⟨row7.kept (fun a ha => hg8.block _ (row7.far a ha).2 (hneB a ha)), fun j u e hu he => ?_, fun a ha hm => ?_, box8, ?_⟩
  · rcases Nat.lt_or_ge j Vk.length with h1 | h1
    · rw [List.getElem?_append_left h1] at hu
      have h2 := (h.on j u e hu he)
      refine (h2.fr (S := fun _ => False) (Fr.of_below hb6) (fun _ _ e => e)).fr hf78 (fun b hb e => ?_)
      have hb2 := hlt b (bl_mem hu hb)
      rcases e with e | e
      · cases qo with
        | none => cases e
        | some a => exact h.ne a rfl (by have e2 : b = a.block := by simpa using e
                                         rw [← e2]; exact bl_mem hu hb)
      · omega
    · rw [List.getElem?_append_right h1] at hu
      have hj : j = k := by have := (List.getElem?_eq_some_iff.1 hu).1; simp at this; omega
      subst hj
      rw [hd] at he; cases he
      rw [show j - Vk.length = 0 by omega] at hu
      simp at hu; subst hu
      refine (hv.fr hf78 (fun b hb e => ?_)).mono hzW
      have hb2 := hv.lt b hb
      rcases e with e | e
      · cases qo with
        | none => cases e
        | some a =>
          have e2 : b = a.block := by simpa using e
          have := (hqf a rfl).2
          omega
      · omega
  · have hbl : bl (Vk ++ [v]) = bl Vk ++ hbs v := by simp [bl]
    rw [hbl] at hm
    rw [ha] at hq7
    have hcase : (∃ b, qo = some b ∧ a.block = b.block) ∨ a.block = u6.heap.size := by
      rcases hq7 with e | e
      · cases qo with
        | none => cases e
        | some b => exact .inl ⟨b, rfl, by simpa using e⟩
      · exact .inr (by simpa using e)
    rcases List.mem_append.1 hm with hm | hm
    · have h2 := hlt _ hm
      rcases hcase with ⟨b, h3, h4⟩ | h3
      · exact h.ne b h3 (by rw [← h4]; exact hm)
      · omega
    · have h2 := hv.lt _ hm
      rcases hcase with ⟨b, h3, h4⟩ | h3
      · have := (hqf b h3).2; omega
      · omega
  · refine (h.fr.then (Fr.of_below (S := fun _ => False) hb6) (fun _ _ e => e.elim)).then hf78 (fun j hj e => ?_)
    rcases e with e | e
    · cases qo with
      | none => cases e
      | some a =>
        have e2 : j = a.block := by simpa using e
        have := (hqf a rfl).1
        omega
    · exact e

/-- the buffer of holds is filled, the one of waits is new -/
structure T3 (WA u : World) (l : List HoldD) (qh : Option Addr) (kh ch g1 : Nat) : Prop where
  bl : Below WA.heap.size WA u
  hs : OwnS 45 u WA.heap.size (.slice qh kh ch) l
  ws : OwnS 47 u WA.heap.size (.slice (some ⟨g1, 0, none⟩) 0 0) ([] : List WaitD)
  ne : ∀ a, qh = some a → a.block ≠ g1
  ge : WA.heap.size ≤ g1
structure T4 (WA u : World) (l : List HoldD) (qh : Option Addr) (kh ch : Nat) (ws : List WaitD) (qw : Option Addr) (kw cw : Nat) : Prop where
  bl : Below WA.heap.size WA u
  hs : OwnS 45 u WA.heap.size (.slice qh kh ch) l
  ws : OwnS 47 u WA.heap.size (.slice qw kw cw) ws
/-- the three ways there: the holds' buffer first and filled first, first and filled behind, behind -/
theorem way_1 {WA u2 : World} {q' : Option Addr} {m c' : Nat} {l : List HoldD} (hb2 : Below WA.heap.size WA u2) (h2 : OwnS 45 u2 WA.heap.size (.slice q' m c') l) {u3 : World} (h3 : u2.alloc (.cells #[] 47) = u3) : T3 WA u3 l q' m c' u2.heap.size := by
  have hb : Below u2.heap.size u2 u3 := by rw [← h3]; exact (Below.refl _ _).alloc (Nat.le_refl _) _
  exact ⟨by rw [← h3]; exact hb2.alloc hb2.size _, h2.below hb, (OwnS.empty h3 rfl).mono hb2.size, fun a ha e => by have := (h2.far a ha).2; omega, hb2.size⟩
theorem way_2 {WA u2 u3 : World} {q' : Option Addr} {m c' gh gw : Nat} {l : List HoldD} (hw : OwnS 47 u2 WA.heap.size (.slice (some ⟨gw, 0, none⟩) 0 0) ([] : List WaitD)) (hne : gh ≠ gw)
    (hb3 : Below WA.heap.size WA u3) (h3 : OwnS 45 u3 WA.heap.size (.slice q' m c') l) (hg3 : u2.grownBy u3 (some gh)) (hq3 : ∀ a, q' = some a → a.block = gh ∨ a.block = u2.heap.size) : T3 WA u3 l q' m c' gw := by
  have hlt := (hw.far _ rfl)
  exact ⟨hb3, h3, hw.kept (fun a ha => by cases ha; exact hg3.block _ hlt.2 (fun e => hne (by simpa using e.symm))), fun a ha e => by rcases hq3 a ha with h | h; exact hne (h.symm.trans e); have h5 : gw < u2.heap.size := hlt.2; omega, hlt.1⟩
theorem EndsV.mk' {P : Program} {o : Oper} {a : Act} {w w' : World} {R : Value → World → Prop} {v : Value} (h : (execOp a.eval o).run P w = .ok (.value v) w') (hR : R v w') : EndsV P o a w R := ⟨v, w', h, hR⟩
theorem no_x {b : Bool} {X : Prop} (h : b = true) : b = false → X := fun e => by rw [h] at e; cases e

end Go.Proofs.YtbgpppbcffpdbaaGreatDoor
