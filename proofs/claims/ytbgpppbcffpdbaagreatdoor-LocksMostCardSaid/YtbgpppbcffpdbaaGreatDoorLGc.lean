/- Locks: may these be? rows of a queue, a queue, the locks. -/
import Derived.Test.YtbgpppbcffpdbaaGreatDoorLGb
import Derived.Test.YtbgpppbcffpdbaaGreatDoorShelf
import Derived.Test.YtbgpppbcffpdbaaGreatDoorHeld
import Derived.Deep.RegionHeld3
import Derived.Sort.OwnSortedInts

/-! together of locks: whether each two of the holders go together; lists of ints of the call's own. -/
namespace Go.Proofs.YtbgpppbcffpdbaaGreatDoor
open Go.RowKit

@[reducible] instance : Cel Int := ⟨fun x => [.int .i64 x], 1, fun _ => rfl, fun r v hv => by simp only [List.mem_cons, List.not_mem_nil, or_false] at hv; subst hv; rfl, by decide⟩
theorem cellsI : ∀ l : List Int, cellsL l = l.map (Value.int .i64)
  | [] => rfl
  | x :: l => by simp only [cellsL, cellsI l, List.map_cons]; rfl
theorem OwnS.ints {T : TypeId} {w : World} {B : Nat} {g n c : Nat} {l : List Int} (h : OwnS T w B (.slice (some ⟨g, 0, none⟩) n c) l) : ∀ j, j < l.length → w.cell? ⟨g, 0 + j, none⟩ = some (.int .i64 (l.getD j 0)) := fun j hj => by
  obtain ⟨g', cur, e, _, hr, _, _, _, ht⟩ := h.opened
  cases e
  have hl := h.len
  rw [Nat.zero_add, hr.cell]
  have h2 := congrArg (·[j]?) ht
  simp only [cellsI, List.getElem?_map, List.getElem?_eq_getElem hj, Option.map_some] at h2
  rw [List.getElem?_take_of_lt (by show j < n * 1; omega)] at h2
  rw [h2]
  simp [List.getD, hj]
theorem containsI_any (q : Option Addr) (n c B : Nat) (T : TypeId) (M : List Int) (x : Int) (w : World) (h : OwnS T w B (.slice q n c) M) (hsm : n ≤ 1000000) :
    Calls Tryz.prog 151 #[.slice q n c, .int .i64 x] w (fun e w' => e = .returned (.bool (M.contains x)) ∧ w' = w) := by
  have hl := h.len
  cases q with
  | none =>
    obtain ⟨rfl, rfl, rfl⟩ := h.nil_cap
    exact (Tryz.slices_Contains_int_empty none 0 x w).mono fun e w' he => he
  | some a =>
    obtain ⟨g, cur, rfl, _⟩ := h.opened
    refine (Tryz.slices_Contains_int g 0 n c M x w (by omega) (by omega) h.ints).mono fun e w' he => ?_
    rw [List.take_of_length_le (by omega)] at he
    exact he

/-- each two go together -/
def togB : List HoldD → Bool
  | [] => true
  | a :: l => l.all (fun b => goesB b.m a.m) && togB l
theorem togB_iff : ∀ {l : List HoldD}, togB l = true ↔ ∀ (i j : Nat) a b, j < i → l[i]? = some a → l[j]? = some b → goesB a.m b.m = true
  | [] => by simp [togB]
  | c :: l => by
    simp only [togB, Bool.and_eq_true, togB_iff (l := l), List.all_eq_true]
    constructor
    · rintro ⟨h1, h2⟩ i j a b hij ha hb
      match i, j, hij with
      | i + 1, 0, _ =>
        simp at ha hb; subst hb
        exact h1 a (List.mem_of_getElem? ha)
      | i + 1, j + 1, hij => exact h2 i j a b (by omega) (by simpa using ha) (by simpa using hb)
    · intro h
      refine ⟨fun b hb => ?_, fun i j a b hij ha hb => h (i + 1) (j + 1) a b (by omega) (by simpa using ha) (by simpa using hb)⟩
      obtain ⟨i, hi⟩ := List.mem_iff_getElem?.1 hb
      exact h (i + 1) 0 b c (by omega) (by simpa using hi) rfl

/-- what is known behind k holders -/
structure TogR (hs : List HoldD) (k : Nat) (M : List Int) : Prop where
  mem : ∀ m, m ∈ M ↔ ∃ i a, i < k ∧ hs[i]? = some a ∧ a.m = m
  le : M.length ≤ k
  ok : ∀ (i j : Nat) a b, i < k → j < i → hs[i]? = some a → hs[j]? = some b → goesB a.m b.m = true
theorem TogR.start (hs : List HoldD) : TogR hs 0 [] := ⟨fun m => by simp, Nat.le_refl _, fun i j a b hi => by omega⟩
theorem TogR.step {hs : List HoldD} {k : Nat} {M : List Int} {h : HoldD} (t : TogR hs k M) (hx : hs[k]? = some h) (hg : ∀ j m, j < M.length → M[j]? = some m → goesB h.m m = true) (M' : List Int) (hM : M' = if M.contains h.m = true then M else M ++ [h.m]) : TogR hs (k + 1) M' := by
  have hmem : ∀ m, m ∈ M' ↔ m ∈ M ∨ m = h.m := fun m => by
    rw [hM]
    split
    · next hc =>
      have := List.contains_iff_mem.1 hc
      constructor
      · exact .inl
      · rintro (h | rfl) <;> assumption
    · simp
  refine ⟨fun m => ?_, ?_, fun i j a b hi hij ha hb => ?_⟩
  · rw [hmem, t.mem]
    constructor
    · rintro (⟨i, a, h1, h2, h3⟩ | rfl)
      · exact ⟨i, a, by omega, h2, h3⟩
      · exact ⟨k, h, by omega, hx, rfl⟩
    · rintro ⟨i, a, h1, h2, h3⟩
      rcases Nat.lt_or_ge i k with h4 | h4
      · exact .inl ⟨i, a, h4, h2, h3⟩
      · obtain rfl : i = k := by omega
        rw [hx] at h2; cases h2; exact .inr h3.symm
  · have := t.le
    rw [hM]; split <;> simp <;> omega
  · rcases Nat.lt_or_ge i k with h4 | h4
    · exact t.ok i j a b h4 hij ha hb
    · obtain rfl : i = k := by omega
      rw [hx] at ha; cases ha
      have hin := (t.mem b.m).2 ⟨j, b, hij, hb, rfl⟩
      obtain ⟨p, hp⟩ := List.mem_iff_getElem?.1 hin
      exact hg p b.m (List.getElem?_eq_some_iff.1 hp).1 hp
theorem TogR.bad {hs : List HoldD} {k : Nat} {M : List Int} {h : HoldD} (t : TogR hs k M) (hx : hs[k]? = some h) {j : Nat} {m : Int} (hm : M[j]? = some m) (hg : goesB h.m m = false) : togB hs = false := by
  obtain ⟨i, a, h1, h2, rfl⟩ := (t.mem m).1 (List.mem_of_getElem? hm)
  cases hb : togB hs with
  | false => rfl
  | true => rw [togB_iff.1 hb k i h a h1 hx h2] at hg; cases hg
theorem TogR.good {hs : List HoldD} {M : List Int} (t : TogR hs hs.length M) : togB hs = true :=
  togB_iff.2 fun i j a b hij ha hb => t.ok i j a b (List.getElem?_eq_some_iff.1 ha).1 hij ha hb

set_option maxRecDepth 100000 in
set_option maxHeartbeats 2000000 in
theorem together_any (q : Option Addr) (n c : Nat) (hs : List HoldD) (w : World) (hG : LaidG w) (h : SlOn w q n c hs) (hsm : n ≤ 1000000) :
    Calls Tryz.prog 119 #[.slice q n c] w (fun e w' => e = .returned (.bool (togB hs)) ∧ Below w.heap.size w w') := by
  have hh := Lib.hid h
  have hl := Lib.hid h.len
  have hGG := Lib.hid hG
  have hbad := Lib.hid (fun (k : Nat) M a (t : TogR hs k M) hx j m hm hg => TogR.bad (h := a) t hx (j := j) (m := m) hm hg)
  have hgood := Lib.hid (fun M (t : TogR hs hs.length M) => t.good)
  obtain ⟨R, hR⟩ : ∃ R, togB hs = R := ⟨_, rfl⟩
  rw [hR] at hbad hgood ⊢
  have ho0 : Hid (OwnS 3 w w.heap.size (.slice none 0 0) ([] : List Int)) := OwnS.nil _ _ _
  have ht0 := Lib.hid (TogR.start hs)
  clear h hR hG
  go_enter Tryz.func119, Tryz.ntmps119
  go_wp2
  go_loopw [3, 10] (fun v3 v10 wr => ∃ (k : Nat) (q0 : Option Addr) (n0 c0 : Nat) (M : List Int), k ≤ n ∧ v10 = .int .i64 k ∧ v3 = .slice q0 n0 c0 ∧ Hid (TogR hs k M) ∧ Hid (Below w.heap.size w wr ∧ OwnS 3 wr w.heap.size (.slice q0 n0 c0) M)) (fun _ v10 _ => n - (intOf v10).toNat)
  case atStart => exact ⟨0, none, 0, 0, [], Nat.zero_le _, rfl, rfl, ht0.out, Below.refl _ _, ho0.out⟩
  case round =>
    obtain ⟨k, q0, n0, c0, M, hk, rfl, rfl, ht, hr⟩ := hrel
    obtain ⟨wo, rfl⟩ : ∃ x, x = wr := ⟨_, rfl⟩
    have hn0 := Lib.hid hr.out.2.len
    have hMk : n0 ≤ k := by have := ht.out.le; have := hn0.out; omega
    by_cases hlt : k < n
    · obtain ⟨A, ⟨ax, am⟩, hqA, hx, hcA⟩ := (hh.out.below hr.out.1 (Nat.le_refl _)).at hlt
      subst hqA
      have hcell : Hid (∀ j' v, ([.int .i64 ax, .int .i64 am] : List Value)[j']? = some v → wo.cell? ((A.add (k * 2)).add j') = some v) := hcA
      have hs2 := sizeHold (.int .i64 ax) (.int .i64 am)
      have hx' := Lib.hid hx
      have i0 : (0 : Int) ≤ k := by omega
      have i1 : (k : Int) < n := by omega
      clear hx hcA
      obtain ⟨WA, hWA⟩ : ∃ W', wo.alloc (.cells #[.int .i64 ax, .int .i64 am] 45) = W' := ⟨_, rfl⟩
      have hbA := Lib.hid (one_box (xs := [.int .i64 ax, .int .i64 am]) hWA)
      have hBA := Lib.hid (below_step hbA.out.1 hr.out.1)
      have hoA := Lib.hid (hr.out.2.below hbA.out.1)
      go_wp2_with (first
        | (with_reducible refine wpList_load_at rfl 45 (.tmp 12) rfl Tryz.underlying45 rfl hs2 rfl hcell.out ?_))
      clear hWA hcell
      go_loopw [16] (fun v16 wr => ∃ j : Nat, j ≤ n0 ∧ v16 = .int .i64 j ∧ Hid (Below WA.heap.size WA wr) ∧ Hid (∀ p m, p < j → M[p]? = some m → goesB am m = true)) (fun v16 _ => n0 - (intOf v16).toNat)
      case atStart => exact ⟨0, Nat.zero_le _, rfl, Below.refl _ _, fun p m hp => by omega⟩
      case round =>
        obtain ⟨j, hj, rfl, hb2, hp⟩ := hrel
        have hBx := Lib.hid (hbA.out.2.1.below hb2.out (Nat.le_refl _))
        have c1 := hBx.out.cell 1 rfl
        have hB2 := Lib.hid (below_step hb2.out hBA.out)
        have ho2 := Lib.hid (hoA.out.below hb2.out)
        by_cases hjn : j < n0
        · obtain ⟨A2, m, hqA2, hm, hcm⟩ := ho2.out.reads.at hjn
          subst hqA2
          have cm : wr.cell? (A2.add j) = some (.int .i64 m) := by have h := hcm 0 _ rfl; rwa [add0, show j * Cel.sz Int = j from Nat.mul_one j] at h
          have j0 : (0 : Int) ≤ j := by omega
          have j1 : (j : Int) < n0 := by omega
          have hm' := Lib.hid hm
          have hc := Lib.hid (goes_any am m wr (hGG.out.below hB2.out))
          clear hm hcm
          obtain ⟨b, hbv⟩ : ∃ b, goesB am m = b := ⟨_, rfl⟩
          have hbv' := Lib.hid hbv
          rw [hbv] at hc
          clear hbv
          cases b with
          | true =>
            go_wp2_with (first
              | (go_at_call 54; refine hc.out.mono ?_; rintro e w2 ⟨rfl, hb3⟩; have hb4 := Lib.hid (below_step hb3 hb2.out); clear hb3))
            go_roundw
            case rel =>
              refine ⟨j + 1, by omega, by go_num, hb4.out, fun p m' hpj hm2 => ?_⟩
              rcases Nat.lt_or_ge p j with h1 | h1
              · exact hp.out p m' h1 hm2
              · obtain rfl : p = j := by omega
                rw [hm'.out] at hm2; cases hm2; exact hbv'.out
            case measure => simp [intOf]; omega
          | false =>
            have hfin : Hid (R = false) := hbad.out k M ⟨ax, am⟩ ht.out hx'.out j m hm'.out hbv'.out
            go_wp2_with (first
              | (go_at_call 54; refine hc.out.mono ?_; rintro e w2 ⟨rfl, hb3⟩; have hb4 := Lib.hid (below_step (below_step hb3 hb2.out) hBA.out); clear hb3))
            go_ret
            exact ⟨ret_b hfin.out.symm, hb4.out⟩
        · obtain rfl : n0 = j := by omega
          have hcon := Lib.hid (containsI_any q0 n0 c0 w.heap.size 3 M am wr ho2.out (by omega))
          have hstp := Lib.hid (fun M' hM => ht.out.step hx'.out (fun j m hj hm => hp.out j m (by have := hn0.out; omega) hm) M' hM)
          obtain ⟨b, hbv⟩ : ∃ b, M.contains am = b := ⟨_, rfl⟩
          have hstp2 : Hid (TogR hs (k + 1) (if b = true then M else M ++ [am])) := by rw [← hbv]; exact hstp.out _ rfl
          rw [hbv] at hcon
          clear hbv hstp
          cases b with
          | true =>
            go_wp2_with (first
              | (go_at_call 151; refine hcon.out.mono ?_; rintro e w2 ⟨rfl, hw⟩; obtain rfl := hw.symm))
            go_roundw
            case rel => exact ⟨k + 1, q0, n0, c0, M, by omega, by go_num, rfl, hstp2.out, hB2.out, ho2.out⟩
            case measure => simp [intOf]; omega
          | false =>
            obtain ⟨W6, hW6⟩ : ∃ W6, wr.alloc (.cells #[.int .i64 am] 3) = W6 := ⟨_, rfl⟩
            have hb6 := Lib.hid (one_box (xs := [.int .i64 am]) hW6)
            have hrow : Hid (SlOn W6 (some ⟨wr.heap.size, 0, none⟩) 1 1 [am]) := by
              have h0 := RowV.made (T := 3) wr [.int .i64 am]
              rw [hW6] at h0
              exact (OwnS.single (r := am) h0).reads
            have ho6 := Lib.hid (ho2.out.below hb6.out.1)
            have hB6 := Lib.hid (below_step hb6.out.1 hB2.out)
            have h40 : Hid ((n0 + 1) * 8 ≤ 140737488355328) := by show _ ≤ _; omega
            have h41 : Hid (n0 + 1 ≤ 140737488355328) := by show _ ≤ _; omega
            have hsz := Lib.hid hB6.out.size
            go_wp2_with (first
              | (go_at_call 151; refine hcon.out.mono ?_; rintro e w2 ⟨rfl, hw⟩; obtain rfl := hw.symm)
              | (at_builtin
                 refine wpList_append_l Tryz.underlying33 infoInt rfl rfl (.tmp 31) (.tmp 34) rfl rfl rfl ho6.out hrow.out h40.out h41.out hsz.out ?_
                 intro q' c' w' h1 h2 h3
                 have hh1 := Lib.hid h1
                 have hh2 : Hid (Below w.heap.size w w') := hB6.out.trans (grown_belowN h2 hB6.out.size (fun a ha => by
                   cases q0 with
                   | none => cases ha
                   | some a0 => cases ha; exact (ho6.out.far a0 rfl).1))
                 clear h1 h2 h3))
            go_roundw
            case rel => exact ⟨k + 1, q', n0 + 1, c', M ++ [am], by omega, by go_num, rfl, hstp2.out, hh2.out, hh1.out⟩
            case measure => simp [intOf]; omega
    · obtain rfl : n = k := by omega
      have hfin : Hid (R = true) := hgood.out M (by rw [hl.out]; exact ht.out)
      go_wp2
      go_ret
      exact ⟨ret_b hfin.out.symm, hr.out.1⟩
end Go.Proofs.YtbgpppbcffpdbaaGreatDoor

/-! holdersFit of locks: which holders may be. -/
namespace Go.Proofs.YtbgpppbcffpdbaaGreatDoor
open Go.RowKit

theorem below_drewN (w : World) (k : Nat) : Below w.heap.size w (w.drewN k) := ⟨rfl, rfl, rfl, Nat.le_refl _, fun _ _ => rfl⟩
theorem sort_adj {hs : List HoldD} (h : ∀ (j : Nat) p a, hs[j]? = some p → hs[j + 1]? = some a → p.x < a.x) : SortH hs := by
  have key : ∀ (d i : Nat) a b, hs[i]? = some a → hs[i + d + 1]? = some b → a.x < b.x := by
    intro d
    induction d with
    | zero => intro i a b ha hb; exact h i a b ha hb
    | succ d ih =>
      intro i a b ha hb
      have hl := (List.getElem?_eq_some_iff.1 hb).1
      have hm : hs[i + d + 1]? = some (hs[i + d + 1]'(by omega)) := List.getElem?_eq_getElem (by omega)
      exact Int.lt_trans (ih i a _ ha hm) (h (i + d + 1) _ b hm hb)
  unfold SortH
  rw [List.pairwise_iff_getElem]
  intro i j hi hj hij
  have e : i + (j - i - 1) + 1 = j := by omega
  exact key (j - i - 1) i _ _ (List.getElem?_eq_getElem hi) (by rw [e]; exact List.getElem?_eq_getElem hj)

/-- holders that may be, of a key or of a table -/
structure HsFit (k : Bool) (hs : List HoldD) : Prop where
  one : ∀ h ∈ hs, txnB h.x = true ∧ modB k h.m = true
  sort : SortH hs
  ne : hs ≠ []
  tog : togB hs = true

structure HfR (k : Bool) (hs : List HoldD) (K : Nat) : Prop where
  one : ∀ (i : Nat) h, i < K → hs[i]? = some h → txnB h.x = true ∧ modB k h.m = true
  adj : ∀ (j : Nat) p a, j + 1 < K → hs[j]? = some p → hs[j + 1]? = some a → p.x < a.x
theorem HfR.done {k : Bool} {hs : List HoldD} {n : Nat} (h : HfR k hs n) (hl : hs.length = n) (hn : n ≠ 0) (ht : togB hs = true) : HsFit k hs := by
  refine ⟨fun a ha => ?_, sort_adj fun j p a hp ha => h.adj j p a (by have := (List.getElem?_eq_some_iff.1 ha).1; omega) hp ha, fun e => by subst e; exact hn hl.symm, ht⟩
  obtain ⟨i, hi⟩ := List.mem_iff_getElem?.1 ha
  exact h.one i a (by have := (List.getElem?_eq_some_iff.1 hi).1; omega) hi
theorem HsFit.bad1 {k : Bool} {hs : List HoldD} {i : Nat} {h : HoldD} (hi : hs[i]? = some h) (hb : txnB h.x = false ∨ modB k h.m = false) : ¬ HsFit k hs := fun f => by
  have := f.one h (List.mem_of_getElem? hi)
  rcases hb with e | e <;> simp_all
theorem HsFit.bad2 {k : Bool} {hs : List HoldD} {j : Nat} {p h : HoldD} (hp : hs[j]? = some p) (hi : hs[j + 1]? = some h) (hb : ¬ p.x < h.x) : ¬ HsFit k hs := fun f => hb (f.sort.lt (Nat.lt_succ_self j) hp hi)
theorem no_b {b : Bool} {P : Prop} (hb : b = true ↔ P) (h : ¬ P) : b = false := by cases b with
  | false => rfl
  | true => exact absurd (hb.1 rfl) h

set_option maxRecDepth 100000 in
set_option maxHeartbeats 4000000 in
theorem holdersFit_any (t : Int) (k : Bool) (id : Int) (hq : Option Addr) (hn hc : Nat) (wq : Option Addr) (wn wc : Nat) (hs : List HoldD) (b : Bool) (hb : b = true ↔ HsFit k hs) (w : World) (hG : LaidG w) (h : SlOn w hq hn hc hs) (hsm : hn ≤ 1000000) :
    Calls Tryz.prog 84 #[.agg #[.int .i64 t, .bool k, .int .u16 id, .slice hq hn hc, .slice wq wn wc]] w (fun e w' => e = .returned (.bool b) ∧ Below w.heap.size w w') := by
  obtain ⟨W, hW⟩ : ∃ W, w.alloc (.cells #[.int .i64 t, .bool k, .int .u16 id, .slice hq hn hc, .slice wq wn wc] 43) = W := ⟨_, rfl⟩
  have hbx := Lib.hid (one_box (xs := [.int .i64 t, .bool k, .int .u16 id, .slice hq hn hc, .slice wq wn wc]) hW)
  have hh := Lib.hid (h.below hbx.out.1 (Nat.le_refl _))
  have hl := Lib.hid h.len
  have hGG := Lib.hid (hG.below hbx.out.1)
  have hb' := Lib.hid hb
  have c3 := hbx.out.2.1.cell 3 rfl
  clear h hG hb
  go_enter Tryz.func84, Tryz.ntmps84
  go_wp2
  clear hW c3
  go_loopw [8] (fun v8 wr => ∃ K : Nat, K ≤ hn ∧ v8 = .int .i64 K ∧ Hid (Below W.heap.size W wr) ∧ Hid (HfR k hs K)) (fun v8 _ => hn - (intOf v8).toNat)
  case atStart => exact ⟨0, Nat.zero_le _, rfl, Below.refl _ _, (fun i h hi => by omega), fun j p a hj => by omega⟩
  case round =>
    obtain ⟨K, hK, rfl, hbr, hr⟩ := hrel
    by_cases hlt : K < hn
    · obtain ⟨A, ⟨ax, am⟩, hqA, hx, hcA⟩ := (hh.out.below hbr.out (Nat.le_refl _)).at hlt
      subst hqA
      have hcell : Hid (∀ j' v, ([.int .i64 ax, .int .i64 am] : List Value)[j']? = some v → wr.cell? ((A.add (K * 2)).add j') = some v) := hcA
      have hs2 := sizeHold (.int .i64 ax) (.int .i64 am)
      have hx' := Lib.hid hx
      have i0 : (0 : Int) ≤ K := by omega
      have i1 : (K : Int) < hn := by omega
      clear hx hcA
      obtain ⟨WA, hWA⟩ : ∃ W', wr.alloc (.cells #[.int .i64 ax, .int .i64 am] 45) = W' := ⟨_, rfl⟩
      have hbA := Lib.hid (one_box (xs := [.int .i64 ax, .int .i64 am]) hWA)
      have hBA := Lib.hid (below_step hbA.out.1 hbr.out)
      have hqx := Lib.hid (hbx.out.2.1.below hBA.out (Nat.le_refl _))
      have d0 := hbA.out.2.1.cell 0 rfl
      have d1 := hbA.out.2.1.cell 1 rfl
      have q0 := hqx.out.cell 0 rfl
      have q1 := hqx.out.cell 1 rfl
      have q2 := hqx.out.cell 2 rfl
      obtain ⟨tb, htb⟩ : ∃ tb, txnB ax = tb := ⟨_, rfl⟩
      obtain ⟨mb, hmb⟩ : ∃ mb, modB k am = mb := ⟨_, rfl⟩
      have hct := Lib.hid (isTxn_any ax WA tb htb)
      have hcm := Lib.hid (isModeOf_any t k id am WA mb hmb)
      have htb' := Lib.hid htb
      have hmb' := Lib.hid hmb
      clear htb hmb
      cases tb with
      | false =>
        have hfin : Hid (b = false) := no_b hb'.out (HsFit.bad1 hx'.out (.inl htb'.out))
        go_wp2_with (first
          | (with_reducible refine wpList_load_at rfl 45 (.tmp 11) rfl Tryz.underlying45 rfl hs2 rfl hcell.out ?_)
          | (go_at_call 98; refine hct.out.mono ?_; rintro e w2 ⟨rfl, hw⟩; obtain rfl := hw.symm))
        go_ret
        exact ⟨ret_b hfin.out.symm, below_step hBA.out hbx.out.1⟩
      | true =>
        cases mb with
        | false =>
          have hfin : Hid (b = false) := no_b hb'.out (HsFit.bad1 hx'.out (.inr hmb'.out))
          go_wp2_with (first
            | (with_reducible refine wpList_load_at rfl 45 (.tmp 11) rfl Tryz.underlying45 rfl hs2 rfl hcell.out ?_)
            | (go_at_call 98; refine hct.out.mono ?_; rintro e w2 ⟨rfl, hw⟩; obtain rfl := hw.symm)
            | (go_at_call 106; refine hcm.out.mono ?_; rintro e w2 ⟨rfl, hb2⟩; have hb3 := Lib.hid (below_step hb2 hBA.out); clear hb2 hWA d0 d1 q0 q1 q2))
          go_ret
          exact ⟨ret_b hfin.out.symm, below_step hb3.out hbx.out.1⟩
        | true =>
          rcases Nat.eq_zero_or_pos K with hk0 | hpos
          · subst hk0
            go_wp2_with (first
              | (with_reducible refine wpList_load_at rfl 45 (.tmp 11) rfl Tryz.underlying45 rfl hs2 rfl hcell.out ?_)
              | (go_at_call 98; refine hct.out.mono ?_; rintro e w2 ⟨rfl, hw⟩; obtain rfl := hw.symm)
              | (go_at_call 106; refine hcm.out.mono ?_; rintro e w2 ⟨rfl, hb2⟩; have hb3 := Lib.hid (below_step hb2 hBA.out); clear hb2 hWA d0 d1 q0 q1 q2))
            go_quiet (fail)
            go_wp2
            go_roundw
            case rel =>
              refine ⟨1, by omega, by go_num, hb3.out.trans ((below_drewN _ _).mono hb3.out.size), (fun i h hi hg => ?_), fun j p a hj => by omega⟩
              obtain rfl : i = 0 := by omega
              rw [hx'.out] at hg; cases hg
              exact ⟨htb'.out, hmb'.out⟩
            case measure => simp [intOf]; omega
          · obtain ⟨m, rfl⟩ : ∃ m, K = m + 1 := ⟨K - 1, by omega⟩
            obtain ⟨A', ⟨px, pm⟩, hqA', hy, hcy⟩ := (hh.out.below hbr.out (Nat.le_refl _)).at (show m < hn by omega)
            cases hqA'
            have hy' := Lib.hid hy
            have hcy' := Lib.hid hcy
            clear hy hcy
            have hpos' : (0 : Int) < (m : Int) + 1 := by omega
            go_wp2_with (first
              | (with_reducible refine wpList_load_at rfl 45 (.tmp 11) rfl Tryz.underlying45 rfl hs2 rfl hcell.out ?_)
              | (go_at_call 98; refine hct.out.mono ?_; rintro e w2 ⟨rfl, hw⟩; obtain rfl := hw.symm)
              | (go_at_call 106; refine hcm.out.mono ?_; rintro e w2 ⟨rfl, hb2⟩; have hb3 := Lib.hid (below_step hb2 hBA.out); have hb4 := Lib.hid hb2; clear hb2 hWA d0 d1 q0 q1 q2))
            have g0 : w2.cell? (A.add (m * 2)) = some (.int .i64 px) := by have h := cell_kept (below_step hb4.out hbA.out.1) (Nat.le_refl _) (hcy'.out 0 _ rfl); rwa [add0] at h
            have g1 := (hbA.out.2.1.below hb4.out (Nat.le_refl _)).cell 0 rfl
            have g2 := (hqx.out.below hb4.out (Nat.le_refl _)).cell 3 rfl
            have w0 : IntKind.i64.wrap ((m : Int) + 1 - 1) = m := by rw [Int.add_sub_cancel]; exact IntWalk.i64_in (m : Int) (by omega)
            have w1' : IntKind.i64.wrap (m : Int) = m := IntWalk.i64_in (m : Int) (by omega)
            have j0 : (0 : Int) ≤ m := by omega
            have j1 : (m : Int) < hn := by omega
            by_cases hge : ax ≤ px
            · have hfin : Hid (b = false) := no_b hb'.out (HsFit.bad2 hy'.out hx'.out (by show ¬ px < ax; omega))
              go_quiet (fail)
              go_wp2
              go_ret
              exact ⟨ret_b hfin.out.symm, below_step (hb3.out.trans ((below_drewN _ _).mono hb3.out.size)) hbx.out.1⟩
            · go_quiet (fail)
              clear g0 g1 g2 w0 w1'
              go_wp2
              go_roundw
              case rel =>
                refine ⟨m + 1 + 1, by omega, by go_num, hb3.out.trans ((below_drewN _ _).mono hb3.out.size), (fun i h hi hg => ?_), fun j p a hj hp ha => ?_⟩
                · rcases Nat.lt_or_ge i (m + 1) with h1 | h1
                  · exact hr.out.one i h h1 hg
                  · obtain rfl : i = m + 1 := by omega
                    rw [hx'.out] at hg; cases hg
                    exact ⟨htb'.out, hmb'.out⟩
                · rcases Nat.lt_or_ge (j + 1) (m + 1) with h1 | h1
                  · exact hr.out.adj j p a h1 hp ha
                  · obtain rfl : j = m := by omega
                    rw [hx'.out] at ha; cases ha
                    rw [hy'.out] at hp; cases hp
                    show px < ax
                    omega
              case measure => simp [intOf]; omega
    · obtain rfl : hn = K := by omega
      have hqx := Lib.hid (hbx.out.2.1.below hbr.out (Nat.le_refl _))
      have q3 := hqx.out.cell 3 rfl
      have hct := Lib.hid (together_any hq hn hc hs wr (hGG.out.below hbr.out) (hh.out.below hbr.out (Nat.le_refl _)) hsm)
      by_cases hn0 : hn = 0
      · subst hn0
        have hfin : Hid (b = false) := no_b hb'.out (fun f => f.ne (List.eq_nil_of_length_eq_zero hl.out))
        go_wp2
        go_ret
        exact ⟨ret_b hfin.out.symm, below_step hbr.out hbx.out.1⟩
      · have hpos : (0 : Int) < hn := by omega
        have hfin : Hid (togB hs = b) := by
          show _ = _
          cases hb2 : togB hs with
          | true => exact (hb'.out.2 (hr.out.done hl.out hn0 hb2)).symm
          | false => exact (no_b hb'.out (fun f => by rw [f.tog] at hb2; cases hb2)).symm
        rw [hfin.out] at hct
        go_wp2_with (first
          | (go_at_call 119; refine hct.out.mono ?_; rintro e w2 ⟨rfl, hb2⟩; have hb3 := Lib.hid (below_step (below_step hb2 hbr.out) hbx.out.1); clear hb2))
        go_ret
        exact ⟨ret_b (by simp), hb3.out⟩
end Go.Proofs.YtbgpppbcffpdbaaGreatDoor

/-! waitersFit and mayBe of locks: which waiters, and which queues, may be. -/
namespace Go.Proofs.YtbgpppbcffpdbaaGreatDoor
open Go.RowKit

/-- waiters that may be, behind these holders -/
structure WsFit (k : Bool) (hs : List HoldD) (ws : List WaitD) : Prop where
  one : ∀ a ∈ ws, txnB a.x = true ∧ modB k a.m = true ∧ a.h = heldH hs a.x ∧ covB a.h a.m = false ∧ covB a.m a.h = true
  ord : ∀ (j : Nat) p a, ws[j]? = some p → ws[j + 1]? = some a → convB a = true → convB p = true
  first : ∀ a, ws[0]? = some a → goesW hs a = false
structure WfR (k : Bool) (hs : List HoldD) (ws : List WaitD) (K : Nat) : Prop where
  one : ∀ (i : Nat) a, i < K → ws[i]? = some a → txnB a.x = true ∧ modB k a.m = true ∧ a.h = heldH hs a.x ∧ covB a.h a.m = false ∧ covB a.m a.h = true
  ord : ∀ (j : Nat) p a, j + 1 < K → ws[j]? = some p → ws[j + 1]? = some a → convB a = true → convB p = true
theorem WfR.start (k : Bool) (hs : List HoldD) (ws : List WaitD) : WfR k hs ws 0 := ⟨fun i a hi => by omega, fun j p a hj => by omega⟩
theorem WfR.step {k : Bool} {hs : List HoldD} {ws : List WaitD} {K : Nat} {a : WaitD} (h : WfR k hs ws K) (hx : ws[K]? = some a) (h1 : txnB a.x = true) (h2 : modB k a.m = true) (h3 : a.h = heldH hs a.x) (h4 : covB a.h a.m = false) (h5 : covB a.m a.h = true) (h6 : ∀ j p, K = j + 1 → ws[j]? = some p → convB a = true → convB p = true) : WfR k hs ws (K + 1) := by
  refine ⟨fun i b hi hb => ?_, fun j p b hj hp hb hc => ?_⟩
  · rcases Nat.lt_or_ge i K with h7 | h7
    · exact h.one i b h7 hb
    · obtain rfl : i = K := by omega
      rw [hx] at hb; cases hb
      exact ⟨h1, h2, h3, h4, h5⟩
  · rcases Nat.lt_or_ge (j + 1) K with h7 | h7
    · exact h.ord j p b h7 hp hb hc
    · obtain rfl : K = j + 1 := by omega
      rw [hx] at hb; cases hb
      exact h6 j p rfl hp hc
theorem WfR.done {k : Bool} {hs : List HoldD} {ws : List WaitD} {n : Nat} (h : WfR k hs ws n) (hl : ws.length = n) (hf : ∀ a, ws[0]? = some a → goesW hs a = false) : WsFit k hs ws := by
  refine ⟨fun a ha => ?_, fun j p a hp ha => h.ord j p a (by have := (List.getElem?_eq_some_iff.1 ha).1; omega) hp ha, hf⟩
  obtain ⟨i, hi⟩ := List.mem_iff_getElem?.1 ha
  exact h.one i a (by have := (List.getElem?_eq_some_iff.1 hi).1; omega) hi
theorem WsFit.at {k : Bool} {hs : List HoldD} {ws : List WaitD} (f : WsFit k hs ws) {i : Nat} {a : WaitD} (hi : ws[i]? = some a) : txnB a.x = true ∧ modB k a.m = true ∧ a.h = heldH hs a.x ∧ covB a.h a.m = false ∧ covB a.m a.h = true := f.one a (List.mem_of_getElem? hi)
theorem keep9 {u v W : World} {a1 a2 a3 a4 a5 a6 a7 a8 : Addr} {v1 v2 v3 v4 v5 v6 v7 v8 : Value} (hb : Below u.heap.size u v)
    (h : u.cell? a1 = some v1 ∧ u.cell? a2 = some v2 ∧ u.cell? a3 = some v3 ∧ u.cell? a4 = some v4 ∧ u.cell? a5 = some v5 ∧ u.cell? a6 = some v6 ∧ u.cell? a7 = some v7 ∧ u.cell? a8 = some v8 ∧ Below W.heap.size W u) :
    v.cell? a1 = some v1 ∧ v.cell? a2 = some v2 ∧ v.cell? a3 = some v3 ∧ v.cell? a4 = some v4 ∧ v.cell? a5 = some v5 ∧ v.cell? a6 = some v6 ∧ v.cell? a7 = some v7 ∧ v.cell? a8 = some v8 ∧ Below W.heap.size W v := by
  obtain ⟨h1, h2, h3, h4, h5, h6, h7, h8, h9⟩ := h
  have e := Nat.le_refl u.heap.size
  exact ⟨cell_kept hb e h1, cell_kept hb e h2, cell_kept hb e h3, cell_kept hb e h4, cell_kept hb e h5, cell_kept hb e h6, cell_kept hb e h7, cell_kept hb e h8, below_step hb h9⟩
/-- a waiter that lies there -/
def Boxed3 (w : World) (a : Addr) (x m h : Int) : Prop := ∀ j v, ([.int .i64 x, .int .i64 m, .int .i64 h] : List Value)[j]? = some v → w.cell? (a.add j) = some v
theorem Boxed3.below {w w' : World} {a : Addr} {x m h : Int} (hb : Boxed3 w a x m h) (hl : Below w.heap.size w w') : Boxed3 w' a x m h := fun j v hv => cell_kept hl (Nat.le_refl _) (hb j v hv)
theorem Boxed3.c0 {w : World} {a : Addr} {x m h : Int} (hb : Boxed3 w a x m h) : w.cell? a = some (.int .i64 x) := by have h := hb 0 _ rfl; rwa [add0] at h
theorem Boxed3.c1 {w : World} {a : Addr} {x m h : Int} (hb : Boxed3 w a x m h) : w.cell? ⟨a.block, a.off + 1, none⟩ = some (.int .i64 m) := hb 1 _ rfl
theorem Boxed3.c2 {w : World} {a : Addr} {x m h : Int} (hb : Boxed3 w a x m h) : w.cell? ⟨a.block, a.off + 2, none⟩ = some (.int .i64 h) := hb 2 _ rfl
theorem bool_of (P : Prop) : ∃ b : Bool, (b = true ↔ P) := by
  by_cases h : P
  · exact ⟨true, by simp [h]⟩
  · exact ⟨false, by simp [h]⟩

set_option maxRecDepth 100000 in
set_option maxHeartbeats 8000000 in
theorem waitersFit_any (t : Int) (k : Bool) (id : Int) (hq : Option Addr) (hn hc : Nat) (wq : Option Addr) (wn wc : Nat) (hs : List HoldD) (ws : List WaitD) (b : Bool) (hb : b = true ↔ WsFit k hs ws) (w : World) (hL : Lay w) (h : SlOn w hq hn hc hs) (hso : SortH hs) (hw : SlOn w wq wn wc ws) (hsm : hn ≤ 1000000) (hwm : wn ≤ 1000000) :
    Calls Tryz.prog 85 #[.agg #[.int .i64 t, .bool k, .int .u16 id, .slice hq hn hc, .slice wq wn wc]] w (fun e w' => e = .returned (.bool b) ∧ Below w.heap.size w w') := by
  obtain ⟨W, hW⟩ : ∃ W, w.alloc (.cells #[.int .i64 t, .bool k, .int .u16 id, .slice hq hn hc, .slice wq wn wc] 43) = W := ⟨_, rfl⟩
  have hbx := Lib.hid (one_box (xs := [.int .i64 t, .bool k, .int .u16 id, .slice hq hn hc, .slice wq wn wc]) hW)
  have hh := Lib.hid (h.below hbx.out.1 (Nat.le_refl _))
  have hww := Lib.hid (hw.below hbx.out.1 (Nat.le_refl _))
  have hl := Lib.hid hw.len
  have hGG := Lib.hid (hL.goes hbx.out.1)
  have hCC := Lib.hid (hL.cov hbx.out.1)
  have hso' := Lib.hid hso
  have hb' := Lib.hid hb
  have c4 := hbx.out.2.1.cell 4 rfl
  have s5 := sizeQue (.int .i64 t) (.bool k) (.int .u16 id) (.slice hq hn hc) (.slice wq wn wc)
  clear h hL hb hw hso
  go_enter Tryz.func85, Tryz.ntmps85
  go_wp2
  clear hW c4
  go_loopw [8] (fun v8 wr => ∃ K : Nat, K ≤ wn ∧ v8 = .int .i64 K ∧ Hid (Below W.heap.size W wr) ∧ Hid (WfR k hs ws K)) (fun v8 _ => wn - (intOf v8).toNat)
  case atStart => exact ⟨0, Nat.zero_le _, rfl, Below.refl _ _, WfR.start k hs ws⟩
  case round =>
    obtain ⟨K, hK, rfl, hbr, hr⟩ := hrel
    by_cases hlt : K < wn
    · obtain ⟨A, ⟨ax, am, ah⟩, hqA, hx, hcA⟩ := (hww.out.below hbr.out (Nat.le_refl _)).at hlt
      subst hqA
      have hcell : Hid (∀ j' v, ([.int .i64 ax, .int .i64 am, .int .i64 ah] : List Value)[j']? = some v → wr.cell? ((A.add (K * 3)).add j') = some v) := hcA
      have hs2 := sizeWait (.int .i64 ax) (.int .i64 am) (.int .i64 ah)
      have hx' := Lib.hid hx
      have i0 : (0 : Int) ≤ K := by omega
      have i1 : (K : Int) < wn := by omega
      clear hx hcA
      obtain ⟨WA, hWA⟩ : ∃ W', wr.alloc (.cells #[.int .i64 ax, .int .i64 am, .int .i64 ah] 47) = W' := ⟨_, rfl⟩
      have hbA := Lib.hid (one_box (xs := [.int .i64 ax, .int .i64 am, .int .i64 ah]) hWA)
      have hBA := Lib.hid (below_step hbA.out.1 hbr.out)
      have hqx := Lib.hid (hbx.out.2.1.below hBA.out (Nat.le_refl _))
      have hhA := Lib.hid (hh.out.below hBA.out (Nat.le_refl _))
      obtain ⟨B, hB⟩ : ∃ B, wr.heap.size = B := ⟨_, rfl⟩
      have hbB : Hid (Boxed WA B [.int .i64 ax, .int .i64 am, .int .i64 ah]) := by have h := hbA.out.2.1; rw [hB] at h; exact h
      obtain ⟨tb, htb⟩ : ∃ tb, txnB ax = tb := ⟨_, rfl⟩
      obtain ⟨mb, hmb⟩ : ∃ mb, modB k am = mb := ⟨_, rfl⟩
      have hct := Lib.hid (fun u => isTxn_any ax u tb htb)
      have hcm := Lib.hid (fun u => isModeOf_any t k id am u mb hmb)
      have htb' := Lib.hid htb
      have hmb' := Lib.hid hmb
      clear htb hmb
      go_wp2_with (first
        | (with_reducible refine wpList_load_at rfl 47 (.tmp 11) rfl Tryz.underlying47 rfl hs2 rfl hcell.out ?_))
      clear hWA hB
      cases tb with
      | false =>
        have hfin : Hid (b = false) := no_b hb'.out (fun f => by have h := (f.at hx'.out).1; have h2 := htb'.out; simp only at h; rw [h2] at h; cases h)
        have d0 := hbB.out.cell 0 rfl
        go_quiet (first | (go_at_call 98; refine Calls.quiet_of_same (hct.out _)))
        clear d0
        go_wp2
        go_ret
        exact ⟨ret_b hfin.out.symm, below_step (hBA.out.trans ((below_drewN _ _).mono hBA.out.size)) hbx.out.1⟩
      | true =>
        cases mb with
        | false =>
          have hfin : Hid (b = false) := no_b hb'.out (fun f => by have h := (f.at hx'.out).2.1; have h2 := hmb'.out; simp only at h; rw [h2] at h; cases h)
          refine wp_region_held (S := fun u => Below WA.heap.size WA u) (by kernel_rfl) ?_
          have hW1 : ({ WA with drawn := WA.drawn + 1 } : World) = WA.drew := rfl
          rw [hW1]
          clear hW1
          have hS0 : Below WA.heap.size WA WA.drew := below_drew WA
          refine held_take (i := 0) (dst := some 13) (v := .pointer (some ⟨B, 0, none⟩)) rfl rfl (by kernel_rfl) (by kernel_rfl) (by kernel_rfl) (fun _ _ _ h => h) (.inl ⟨rfl, fun u hu => by have d0 := (hbB.out.below hu (Nat.le_refl _)).cell 0 rfl; have d1 := (hbB.out.below hu (Nat.le_refl _)).cell 1 rfl; have q0 := (hqx.out.below hu (Nat.le_refl _)).cell 0 rfl; have q1 := (hqx.out.below hu (Nat.le_refl _)).cell 1 rfl; have q2 := (hqx.out.below hu (Nat.le_refl _)).cell 2 rfl; go_simp⟩) hS0 ?_
          go_frame
          refine held_take (i := 1) (dst := some 14) (v := .int .i64 ax) rfl rfl (by kernel_rfl) (by kernel_rfl) (by kernel_rfl) (fun _ _ _ h => h) (.inl ⟨rfl, fun u hu => by have d0 := (hbB.out.below hu (Nat.le_refl _)).cell 0 rfl; have d1 := (hbB.out.below hu (Nat.le_refl _)).cell 1 rfl; have q0 := (hqx.out.below hu (Nat.le_refl _)).cell 0 rfl; have q1 := (hqx.out.below hu (Nat.le_refl _)).cell 1 rfl; have q2 := (hqx.out.below hu (Nat.le_refl _)).cell 2 rfl; go_simp⟩) hS0 ?_
          go_frame
          refine held_call (i := 2) (dst := some 15) rfl rfl (by kernel_rfl) rfl (by go_simp) (hct.out _) ?_
          rintro e u1 ⟨rfl, hb1⟩
          have hS1 := hb1 ▸ hS0
          refine ⟨_, rfl, hS1, ?_⟩
          go_frame
          refine held_take (i := 3) (dst := some 16) (v := .bool false) rfl rfl (by kernel_rfl) (by kernel_rfl) (by kernel_rfl) (fun _ _ _ h => h) (.inl ⟨rfl, fun u hu => by have d0 := (hbB.out.below hu (Nat.le_refl _)).cell 0 rfl; have d1 := (hbB.out.below hu (Nat.le_refl _)).cell 1 rfl; have q0 := (hqx.out.below hu (Nat.le_refl _)).cell 0 rfl; have q1 := (hqx.out.below hu (Nat.le_refl _)).cell 1 rfl; have q2 := (hqx.out.below hu (Nat.le_refl _)).cell 2 rfl; go_simp⟩) hS1 ?_
          go_frame
          refine held_take (i := 4) (dst := some 17) (v := .bool false) rfl rfl (by kernel_rfl) (by kernel_rfl) (by kernel_rfl) (fun _ _ _ h => h) (y_move (.tmp 16) rfl rfl rfl) hS1 ?_
          go_frame
          refine held_take (i := 5) (dst := some 18) (v := .pointer (some ⟨w.heap.size, 0, none⟩)) rfl rfl (by kernel_rfl) (by kernel_rfl) (by kernel_rfl) (fun _ _ _ h => h) (.inl ⟨rfl, fun u hu => by have d0 := (hbB.out.below hu (Nat.le_refl _)).cell 0 rfl; have d1 := (hbB.out.below hu (Nat.le_refl _)).cell 1 rfl; have q0 := (hqx.out.below hu (Nat.le_refl _)).cell 0 rfl; have q1 := (hqx.out.below hu (Nat.le_refl _)).cell 1 rfl; have q2 := (hqx.out.below hu (Nat.le_refl _)).cell 2 rfl; go_simp⟩) hS1 ?_
          go_frame
          refine held_take (i := 6) (dst := some 19) (v := .agg #[.int .i64 t, .bool k, .int .u16 id]) rfl rfl (by kernel_rfl) (by kernel_rfl) (by kernel_rfl) (fun _ _ _ h => h) (.inl ⟨rfl, fun u hu => by have d0 := (hbB.out.below hu (Nat.le_refl _)).cell 0 rfl; have d1 := (hbB.out.below hu (Nat.le_refl _)).cell 1 rfl; have q0 := (hqx.out.below hu (Nat.le_refl _)).cell 0 rfl; have q1 := (hqx.out.below hu (Nat.le_refl _)).cell 1 rfl; have q2 := (hqx.out.below hu (Nat.le_refl _)).cell 2 rfl; go_simp⟩) hS1 ?_
          go_frame
          refine held_take (i := 7) (dst := some 20) (v := .pointer (some ⟨B, 1, none⟩)) rfl rfl (by kernel_rfl) (by kernel_rfl) (by kernel_rfl) (fun _ _ _ h => h) (.inl ⟨rfl, fun u hu => by have d0 := (hbB.out.below hu (Nat.le_refl _)).cell 0 rfl; have d1 := (hbB.out.below hu (Nat.le_refl _)).cell 1 rfl; have q0 := (hqx.out.below hu (Nat.le_refl _)).cell 0 rfl; have q1 := (hqx.out.below hu (Nat.le_refl _)).cell 1 rfl; have q2 := (hqx.out.below hu (Nat.le_refl _)).cell 2 rfl; go_simp⟩) hS1 ?_
          go_frame
          refine held_take (i := 8) (dst := some 21) (v := .int .i64 am) rfl rfl (by kernel_rfl) (by kernel_rfl) (by kernel_rfl) (fun _ _ _ h => h) (.inl ⟨rfl, fun u hu => by have d0 := (hbB.out.below hu (Nat.le_refl _)).cell 0 rfl; have d1 := (hbB.out.below hu (Nat.le_refl _)).cell 1 rfl; have q0 := (hqx.out.below hu (Nat.le_refl _)).cell 0 rfl; have q1 := (hqx.out.below hu (Nat.le_refl _)).cell 1 rfl; have q2 := (hqx.out.below hu (Nat.le_refl _)).cell 2 rfl; go_simp⟩) hS1 ?_
          go_frame
          refine held_call (i := 9) (dst := some 22) rfl rfl (by kernel_rfl) rfl (by go_simp) (hcm.out _) ?_
          rintro e u2 ⟨rfl, hb2⟩
          have hS2 := below_step hb2 hS1
          refine ⟨_, rfl, hS2, ?_⟩
          go_frame
          refine held_take (i := 10) (dst := some 23) (v := .bool true) rfl rfl (by kernel_rfl) (by kernel_rfl) (by kernel_rfl) (fun _ _ _ h => h) (.inl ⟨rfl, fun u hu => by have d0 := (hbB.out.below hu (Nat.le_refl _)).cell 0 rfl; have d1 := (hbB.out.below hu (Nat.le_refl _)).cell 1 rfl; have q0 := (hqx.out.below hu (Nat.le_refl _)).cell 0 rfl; have q1 := (hqx.out.below hu (Nat.le_refl _)).cell 1 rfl; have q2 := (hqx.out.below hu (Nat.le_refl _)).cell 2 rfl; go_simp⟩) hS2 ?_
          go_frame
          refine held_take (i := 11) (dst := some 24) (v := .bool true) rfl rfl (by kernel_rfl) (by kernel_rfl) (by kernel_rfl) (fun _ _ _ h => h) (.inl ⟨rfl, fun u hu => by have d0 := (hbB.out.below hu (Nat.le_refl _)).cell 0 rfl; have d1 := (hbB.out.below hu (Nat.le_refl _)).cell 1 rfl; have q0 := (hqx.out.below hu (Nat.le_refl _)).cell 0 rfl; have q1 := (hqx.out.below hu (Nat.le_refl _)).cell 1 rfl; have q2 := (hqx.out.below hu (Nat.le_refl _)).cell 2 rfl; go_simp⟩) hS2 ?_
          go_frame
          refine held_take (i := 12) (dst := some 25) (v := .bool true) rfl rfl (by kernel_rfl) (by kernel_rfl) (by kernel_rfl) (fun _ _ _ h => h) (y_move (.tmp 24) rfl rfl rfl) hS2 ?_
          go_frame
          refine held_take (i := 13) (dst := some 26) (v := undef) rfl rfl (by kernel_rfl) (by kernel_rfl) (by kernel_rfl) (fun _ _ _ h => h) (.inr ⟨rfl, rfl⟩) hS2 ?_
          go_frame
          refine held_take (i := 14) (dst := some 27) (v := undef) rfl rfl (by kernel_rfl) (by kernel_rfl) (by kernel_rfl) (fun _ _ _ h => h) (.inr ⟨rfl, rfl⟩) hS2 ?_
          go_frame
          refine held_take (i := 15) (dst := some 28) (v := undef) rfl rfl (by kernel_rfl) (by kernel_rfl) (by kernel_rfl) (fun _ _ _ h => h) (.inr ⟨rfl, rfl⟩) hS2 ?_
          go_frame
          refine held_take (i := 16) (dst := some 29) (v := undef) rfl rfl (by kernel_rfl) (by kernel_rfl) (by kernel_rfl) (fun _ _ _ h => h) (.inr ⟨rfl, rfl⟩) hS2 ?_
          go_frame
          refine held_take (i := 17) (dst := some 30) (v := undef) rfl rfl (by kernel_rfl) (by kernel_rfl) (by kernel_rfl) (fun _ _ _ h => h) (.inr ⟨rfl, rfl⟩) hS2 ?_
          go_frame
          refine held_take (i := 18) (dst := some 31) (v := undef) rfl rfl (by kernel_rfl) (by kernel_rfl) (by kernel_rfl) (fun _ _ _ h => h) (.inr ⟨rfl, rfl⟩) hS2 ?_
          go_frame
          refine held_take (i := 19) (dst := some 32) (v := undef) rfl rfl (by kernel_rfl) (by kernel_rfl) (by kernel_rfl) (fun _ _ _ h => h) (.inr ⟨rfl, rfl⟩) hS2 ?_
          go_frame
          refine held_take (i := 20) (dst := some 33) (v := .bool true) rfl rfl (by kernel_rfl) (by kernel_rfl) (by kernel_rfl) (fun _ _ _ h => h) (.inl ⟨rfl, fun u hu => by have d0 := (hbB.out.below hu (Nat.le_refl _)).cell 0 rfl; have d1 := (hbB.out.below hu (Nat.le_refl _)).cell 1 rfl; have q0 := (hqx.out.below hu (Nat.le_refl _)).cell 0 rfl; have q1 := (hqx.out.below hu (Nat.le_refl _)).cell 1 rfl; have q2 := (hqx.out.below hu (Nat.le_refl _)).cell 2 rfl; go_simp⟩) hS2 ?_
          go_frame
          refine wpAnyH_done (by kernel_rfl) ?_ _
          have hS9 := Lib.hid (below_step (below_step hS2 hBA.out) hbx.out.1)
          go_wp2
          go_ret
          exact ⟨ret_b hfin.out.symm, hS9.out⟩
        | true =>
          obtain ⟨R, hR⟩ : ∃ R, heldH hs ax = R := ⟨_, rfl⟩
          have hch := Lib.hid (fun u hu => held_any t k id hq hn hc (some A) wn wc hs ax u (hhA.out.below (B := WA.heap.size) hu (Nat.le_refl _)) hso'.out hsm)
          rw [hR] at hch
          have hR' := Lib.hid hR
          clear hR
          have d0 := hbB.out.cell 0 rfl
          have d1 := hbB.out.cell 1 rfl
          have d2 := hbB.out.cell 2 rfl
          have q0 := hqx.out.cell 0 rfl
          have q1 := hqx.out.cell 1 rfl
          have q2 := hqx.out.cell 2 rfl
          have q3 := hqx.out.cell 3 rfl
          have q4 := hqx.out.cell 4 rfl
          by_cases hne : ah = R
          · subst hne
            go_region_held3 (fun u => u.cell? ⟨B, 0, none⟩ = some (.int .i64 ax) ∧ u.cell? ⟨B, 1, none⟩ = some (.int .i64 am) ∧ u.cell? ⟨B, 2, none⟩ = some (.int .i64 ah) ∧ u.cell? ⟨w.heap.size, 0, none⟩ = some (.int .i64 t) ∧ u.cell? ⟨w.heap.size, 1, none⟩ = some (.bool k) ∧ u.cell? ⟨w.heap.size, 2, none⟩ = some (.int .u16 id) ∧ u.cell? ⟨w.heap.size, 3, none⟩ = some (.slice hq hn hc) ∧ u.cell? ⟨w.heap.size, 4, none⟩ = some (.slice (some A) wn wc) ∧ Below WA.heap.size WA u)
              (first | exact ⟨d0, d1, d2, q0, q1, q2, q3, q4, below_drew _⟩ | (go_split_ands; exact ⟨by assumption, by assumption, by assumption, by assumption, by assumption, by assumption, by assumption, by assumption, by assumption⟩) | exact hkeep.out | exact hkeep2.out | exact hkeep3.out)
              (first
                | (go_at_call 98; refine (hct.out _).mono ?_; rintro e u1 ⟨rfl, hwu⟩; obtain rfl := hwu.symm)
                | (go_at_call 106; refine (hcm.out _).mono ?_; rintro e u2 ⟨rfl, hbu⟩; have hkeep2 := Lib.hid (keep9 hbu (by assumption)); clear hbu)
                | (go_at_call 47; refine (hch.out _ (by go_split_ands; assumption)).mono ?_; rintro e u3 ⟨rfl, hbu⟩; have hkeep3 := Lib.hid (keep9 hbu (by assumption)); clear hbu))
            have hS3 : Hid (Below WA.heap.size WA u3) := by show Below _ _ _; go_split_ands; assumption
            go_split_ands
            have hbB3 := Lib.hid (hbB.out.below hS3.out (Nat.le_refl _))
            have hS4 := Lib.hid (below_step hS3.out hBA.out)
            have hqx3 := Lib.hid (hqx.out.below hS3.out (Nat.le_refl _))
            clear d0 d1 d2 q0 q1 q2 q3 q4
            obtain ⟨c1, hc1⟩ : ∃ c1, covB ah am = c1 := ⟨_, rfl⟩
            obtain ⟨c2, hc2⟩ : ∃ c2, covB am ah = c2 := ⟨_, rfl⟩
            have hv1 := Lib.hid (fun u (hu : Below W.heap.size W u) => cov_any ah am u (hCC.out.below hu))
            have hv2 := Lib.hid (fun u (hu : Below W.heap.size W u) => cov_any am ah u (hCC.out.below hu))
            rw [hc1] at hv1
            rw [hc2] at hv2
            have hc1' := Lib.hid hc1
            have hc2' := Lib.hid hc2
            clear hc1 hc2
            cases c1 with
            | true =>
              have hfin : Hid (b = false) := no_b hb'.out (fun f => by have h := (f.at hx'.out).2.2.2.1; have h2 := hc1'.out; simp only at h; rw [h2] at h; cases h)
              go_wp2_with fail
              refine (hv1.out _ hS4.out).mono ?_
              rintro e u4 ⟨rfl, hb4⟩
              have hb5 := Lib.hid (below_step hb4 hS4.out)
              clear hb4
              go_wp2
              go_ret
              exact ⟨ret_b hfin.out.symm, below_step hb5.out hbx.out.1⟩
            | false =>
              go_wp2_with fail
              refine (hv1.out _ hS4.out).mono ?_
              rintro e u4 ⟨rfl, hb4⟩
              have hb5 := Lib.hid (below_step hb4 hS4.out)
              have hbB4 := Lib.hid (hbB3.out.below hb4 (Nat.le_refl _))
              have e1 := hbB4.out.cell 1 rfl
              have e2 := hbB4.out.cell 2 rfl
              clear hb4
              cases c2 with
              | false =>
                have hfin : Hid (b = false) := no_b hb'.out (fun f => by have h := (f.at hx'.out).2.2.2.2; have h2 := hc2'.out; simp only at h; rw [h2] at h; cases h)
                go_wp2_with fail
                refine (hv2.out _ hb5.out).mono ?_
                rintro e u5 ⟨rfl, hb6⟩
                have hb7 := Lib.hid (below_step hb6 hb5.out)
                clear hb6
                go_wp2
                go_ret
                exact ⟨ret_b hfin.out.symm, below_step hb7.out hbx.out.1⟩
              | true =>
                go_wp2_with fail
                refine (hv2.out _ hb5.out).mono ?_
                rintro e u5 ⟨rfl, hb6⟩
                have hb7 := Lib.hid (below_step hb6 hb5.out)
                have hbB5 := Lib.hid (hbB4.out.below hb6 (Nat.le_refl _))
                clear hb6 e1 e2
                have f0 := hbB5.out.cell 0 rfl
                have f1 := hbB5.out.cell 1 rfl
                have f2 := hbB5.out.cell 2 rfl
                have hstep := Lib.hid (fun h6 => hr.out.step hx'.out htb'.out hmb'.out hR'.out.symm hc1'.out hc2'.out h6)
                rcases Nat.eq_zero_or_pos K with hk0 | hpos
                · subst hk0
                  go_wp2
                  go_roundw
                  case rel => exact ⟨1, by omega, by go_num, hb7.out, hstep.out (fun j p hj => by omega)⟩
                  case measure => simp [intOf]; omega
                · obtain ⟨m, rfl⟩ : ∃ m, K = m + 1 := ⟨K - 1, by omega⟩
                  obtain ⟨A', ⟨px, pm, ph⟩, hqA', hy, hcy⟩ := (hww.out.below hb7.out (Nat.le_refl _)).at (show m < wn by omega)
                  cases hqA'
                  have hy' := Lib.hid hy
                  have hcy' : Hid (Boxed3 u5 (A.add (m * 3)) px pm ph) := hcy
                  have hqx5 := Lib.hid (hbx.out.2.1.below hb7.out (Nat.le_refl _))
                  clear hy hcy
                  have hpos' : (0 : Int) < (m : Int) + 1 := by omega
                  have hcv := Lib.hid (fun u => converts_any ax am ah u)
                  obtain ⟨cv, hcv1⟩ : ∃ cv, convB ⟨ax, am, ah⟩ = cv := ⟨_, rfl⟩
                  rw [hcv1] at hcv
                  have hcv1' := Lib.hid hcv1
                  clear hcv1
                  cases cv with
                  | false =>
                    go_wp2_with fail
                    refine (hcv.out _).mono ?_
                    rintro e u6 ⟨rfl, hb8⟩
                    have hb9 := Lib.hid (below_step hb8 hb7.out)
                    clear hb8 f0 f1 f2
                    go_wp2
                    go_roundw
                    case rel => exact ⟨m + 1 + 1, by omega, by go_num, hb9.out, hstep.out (fun j p hj hp hc => by rw [hcv1'.out] at hc; cases hc)⟩
                    case measure => simp [intOf]; omega
                  | true =>
                    have hpv := Lib.hid (fun u => converts_any px pm ph u)
                    obtain ⟨pv, hpv1⟩ : ∃ pv, convB ⟨px, pm, ph⟩ = pv := ⟨_, rfl⟩
                    rw [hpv1] at hpv
                    have hpv1' := Lib.hid hpv1
                    clear hpv1
                    go_wp2_with fail
                    refine (hcv.out _).mono ?_
                    rintro e u6 ⟨rfl, hb8⟩
                    have hb9 := Lib.hid (below_step hb8 hb7.out)
                    have g := (hcy'.out.below hb8)
                    have g0 := g.c0
                    have g1 := g.c1
                    have g2 := g.c2
                    have g4 := (hqx5.out.below hb8 (Nat.le_refl _)).cell 4 rfl
                    have w0 : IntKind.i64.wrap ((m : Int) + 1 - 1) = m := by rw [Int.add_sub_cancel]; exact IntWalk.i64_in (m : Int) (by omega)
                    have w1' : IntKind.i64.wrap (m : Int) = m := IntWalk.i64_in (m : Int) (by omega)
                    have j0 : (0 : Int) ≤ m := by omega
                    have j1 : (m : Int) < wn := by omega
                    clear hb8 f0 f1 f2 g
                    cases pv with
                    | true =>
                      go_wp2_with fail
                      refine (hpv.out _).mono ?_
                      rintro e u7 ⟨rfl, hb10⟩
                      have hb11 := Lib.hid (below_step hb10 hb9.out)
                      clear hb10 g0 g1 g2 g4 w0 w1'
                      go_wp2
                      go_roundw
                      case rel =>
                        refine ⟨m + 1 + 1, by omega, by go_num, hb11.out, hstep.out (fun j p hj hp _ => ?_)⟩
                        obtain rfl : j = m := by omega
                        rw [hy'.out] at hp; cases hp; exact hpv1'.out
                      case measure => simp [intOf]; omega
                    | false =>
                      have hfin : Hid (b = false) := no_b hb'.out (fun f => by have h := f.ord m _ _ hy'.out hx'.out hcv1'.out; rw [hpv1'.out] at h; cases h)
                      go_wp2_with fail
                      refine (hpv.out _).mono ?_
                      rintro e u7 ⟨rfl, hb10⟩
                      have hb11 := Lib.hid (below_step hb10 hb9.out)
                      clear hb10 g0 g1 g2 g4 w0 w1'
                      go_wp2
                      go_ret
                      exact ⟨ret_b hfin.out.symm, below_step hb11.out hbx.out.1⟩
          · have hfin : Hid (b = false) := no_b hb'.out (fun f => by have h := (f.at hx'.out).2.2.1; exact hne (h.trans hR'.out))
            go_region_held3 (fun u => u.cell? ⟨B, 0, none⟩ = some (.int .i64 ax) ∧ u.cell? ⟨B, 1, none⟩ = some (.int .i64 am) ∧ u.cell? ⟨B, 2, none⟩ = some (.int .i64 ah) ∧ u.cell? ⟨w.heap.size, 0, none⟩ = some (.int .i64 t) ∧ u.cell? ⟨w.heap.size, 1, none⟩ = some (.bool k) ∧ u.cell? ⟨w.heap.size, 2, none⟩ = some (.int .u16 id) ∧ u.cell? ⟨w.heap.size, 3, none⟩ = some (.slice hq hn hc) ∧ u.cell? ⟨w.heap.size, 4, none⟩ = some (.slice (some A) wn wc) ∧ Below WA.heap.size WA u)
              (first | exact ⟨d0, d1, d2, q0, q1, q2, q3, q4, below_drew _⟩ | (go_split_ands; exact ⟨by assumption, by assumption, by assumption, by assumption, by assumption, by assumption, by assumption, by assumption, by assumption⟩) | exact hkeep.out | exact hkeep2.out | exact hkeep3.out)
              (first
                | (go_at_call 98; refine (hct.out _).mono ?_; rintro e u1 ⟨rfl, hwu⟩; obtain rfl := hwu.symm)
                | (go_at_call 106; refine (hcm.out _).mono ?_; rintro e u2 ⟨rfl, hbu⟩; have hkeep2 := Lib.hid (keep9 hbu (by assumption)); clear hbu)
                | (go_at_call 47; refine (hch.out _ (by go_split_ands; assumption)).mono ?_; rintro e u3 ⟨rfl, hbu⟩; have hkeep3 := Lib.hid (keep9 hbu (by assumption)); clear hbu))
            have hS3 : Hid (Below WA.heap.size WA u3) := by show Below _ _ _; go_split_ands; assumption
            go_wp2
            go_ret
            exact ⟨ret_b hfin.out.symm, below_step (below_step hS3.out hBA.out) hbx.out.1⟩
    · obtain rfl : wn = K := by omega
      have hqx := Lib.hid (hbx.out.2.1.below hbr.out (Nat.le_refl _))
      have q0 := hqx.out.cell 0 rfl
      have q1 := hqx.out.cell 1 rfl
      have q2 := hqx.out.cell 2 rfl
      have q3 := hqx.out.cell 3 rfl
      have q4 := hqx.out.cell 4 rfl
      by_cases hn0 : wn = 0
      · subst hn0
        have hfin : Hid (b = true) := hb'.out.2 (hr.out.done hl.out (fun a ha => by have := (List.getElem?_eq_some_iff.1 ha).1; have := hl.out; omega))
        go_wp2
        go_quiet (fail)
        clear q0 q1 q2 q3 q4
        go_wp2
        go_ret
        exact ⟨ret_b hfin.out.symm, below_step (hbr.out.trans ((below_drewN _ _).mono hbr.out.size)) hbx.out.1⟩
      · obtain ⟨A, ⟨ax, am, ah⟩, hqA, hx, hcA⟩ := (hww.out.below hbr.out (Nat.le_refl _)).at (show 0 < wn by omega)
        subst hqA
        have hcA' : Boxed3 wr A ax am ah := by have h : Boxed3 wr (A.add (0 * 3)) ax am ah := hcA; rwa [Nat.zero_mul, add0] at h
        have p0 := hcA'.c0
        have p1 := hcA'.c1
        have p2 := hcA'.c2
        have hgo := Lib.hid (fun u (hu : Below wr.heap.size wr u) => goes_l_any t k id hq hn hc (some A) wn wc hs ax am ah u (hGG.out.below (below_step hu hbr.out)) ((hh.out.below hbr.out (Nat.le_refl _)).below hu (Nat.le_refl _)) hsm)
        obtain ⟨g, hg⟩ : ∃ g, goesW hs ⟨ax, am, ah⟩ = g := ⟨_, rfl⟩
        rw [hg] at hgo
        have hfin : Hid ((!g) = b) := by
          show _ = _
          cases g with
          | true => exact (no_b hb'.out (fun f => by have h := f.first _ hx; rw [hg] at h; cases h)).symm
          | false => exact (hb'.out.2 (hr.out.done hl.out (fun a ha => by rw [hx] at ha; cases ha; exact hg))).symm
        have i1 : (0 : Int) < wn := by omega
        have hn1 : ((wn : Int) == 0) = false := by rw [beq_eq_false_iff_ne]; omega
        have hn2 : (wn == 0) = false := by rw [beq_eq_false_iff_ne]; omega
        have hn3 : decide (wn = 0) = false := decide_eq_false hn0
        have i2 : 0 < wn := by omega
        clear hx hcA hg hcA'
        go_wp2
        go_region_held3 (fun u => u.cell? ⟨w.heap.size, 0, none⟩ = some (.int .i64 t) ∧ u.cell? ⟨w.heap.size, 1, none⟩ = some (.bool k) ∧ u.cell? ⟨w.heap.size, 2, none⟩ = some (.int .u16 id) ∧ u.cell? ⟨w.heap.size, 3, none⟩ = some (.slice hq hn hc) ∧ u.cell? ⟨w.heap.size, 4, none⟩ = some (.slice (some A) wn wc) ∧ u.cell? A = some (.int .i64 ax) ∧ u.cell? ⟨A.block, A.off + 1, none⟩ = some (.int .i64 am) ∧ u.cell? ⟨A.block, A.off + 2, none⟩ = some (.int .i64 ah) ∧ Below wr.heap.size wr u)
          (first | exact ⟨q0, q1, q2, q3, q4, p0, p1, p2, below_drew _⟩ | (go_split_ands; exact ⟨by assumption, by assumption, by assumption, by assumption, by assumption, by assumption, by assumption, by assumption, by assumption⟩) | exact hkeep3.out)
          (first
            | (go_at_call 66; refine (hgo.out _ (by go_split_ands; assumption)).mono ?_; rintro e u3 ⟨rfl, hbu⟩; have hkeep3 := Lib.hid (keep9 hbu (by assumption)); clear hbu))
        have hS3 : Hid (Below wr.heap.size wr u3) := by show Below _ _ _; go_split_ands; assumption
        go_wp2
        go_ret
        exact ⟨ret_b (by simp [hfin.out]), below_step (below_step hS3.out hbr.out) hbx.out.1⟩
end Go.Proofs.YtbgpppbcffpdbaaGreatDoor

/-! compare and mayBe of locks. -/
namespace Go.Proofs.YtbgpppbcffpdbaaGreatDoor
open Go.RowKit

theorem keep7 {u v W : World} {a1 a2 a3 a4 a5 a6 : Addr} {v1 v2 v3 v4 v5 v6 : Value} (hb : Below u.heap.size u v)
    (h : u.cell? a1 = some v1 ∧ u.cell? a2 = some v2 ∧ u.cell? a3 = some v3 ∧ u.cell? a4 = some v4 ∧ u.cell? a5 = some v5 ∧ u.cell? a6 = some v6 ∧ Below W.heap.size W u) :
    v.cell? a1 = some v1 ∧ v.cell? a2 = some v2 ∧ v.cell? a3 = some v3 ∧ v.cell? a4 = some v4 ∧ v.cell? a5 = some v5 ∧ v.cell? a6 = some v6 ∧ Below W.heap.size W v := by
  obtain ⟨h1, h2, h3, h4, h5, h6, h9⟩ := h
  have e := Nat.le_refl u.heap.size
  exact ⟨cell_kept hb e h1, cell_kept hb e h2, cell_kept hb e h3, cell_kept hb e h4, cell_kept hb e h5, cell_kept hb e h6, below_step hb h9⟩

set_option maxRecDepth 100000 in
set_option maxHeartbeats 4000000 in
theorem compare_l (ta : Int) (ka : Bool) (ia : Int) (tb : Int) (kb : Bool) (ib : Int) (w : World) (ha0 : 0 ≤ ia) (ha1 : ia < 65536) (hb0 : 0 ≤ ib) (hb1 : ib < 65536) :
    Calls Tryz.prog 40 #[.agg #[.int .i64 ta, .bool ka, .int .u16 ia], .agg #[.int .i64 tb, .bool kb, .int .u16 ib]] w (fun e w' => e = .returned (.int .i64 (cmpR ⟨ta, ka, ia⟩ ⟨tb, kb, ib⟩)) ∧ Below w.heap.size w w') := by
  obtain ⟨W, hW⟩ : ∃ W, (w.alloc (.cells #[.int .i64 ta, .bool ka, .int .u16 ia] 30)).alloc (.cells #[.int .i64 tb, .bool kb, .int .u16 ib] 30) = W := ⟨_, rfl⟩
  have hbx := Lib.hid (two_boxes (xs := [.int .i64 ta, .bool ka, .int .u16 ia]) (ys := [.int .i64 tb, .bool kb, .int .u16 ib]) hW)
  have c0 := hbx.out.2.1.cell 0 rfl
  have c1 := hbx.out.2.1.cell 1 rfl
  have c2 := hbx.out.2.1.cell 2 rfl
  have d0 := hbx.out.2.2.1.cell 0 rfl
  have d1 := hbx.out.2.2.1.cell 1 rfl
  have d2 := hbx.out.2.2.1.cell 2 rfl
  have ia1 := Lib.hid (fun u => inTable_any ta ka ia u ha0 ha1)
  have ib1 := Lib.hid (fun u => inTable_any tb kb ib u hb0 hb1)
  have e : cmpR ⟨ta, ka, ia⟩ ⟨tb, kb, ib⟩ = orI (cmpI ta tb) (cmpI (inT ⟨ta, ka, ia⟩) (inT ⟨tb, kb, ib⟩)) := rfl
  rw [e]
  obtain ⟨xa, hxa⟩ : ∃ x, inT ⟨ta, ka, ia⟩ = x := ⟨_, rfl⟩
  obtain ⟨xb, hxb⟩ : ∃ x, inT ⟨tb, kb, ib⟩ = x := ⟨_, rfl⟩
  rw [hxa] at ia1 ⊢
  rw [hxb] at ib1 ⊢
  clear e hxa hxb ha0 ha1 hb0 hb1
  go_enter Tryz.func40, Tryz.ntmps40
  go_wp2
  clear hW
  go_region_held3 (fun u => u.cell? ⟨w.heap.size, 0, none⟩ = some (.int .i64 ta) ∧ u.cell? ⟨w.heap.size, 1, none⟩ = some (.bool ka) ∧ u.cell? ⟨w.heap.size, 2, none⟩ = some (.int .u16 ia) ∧ u.cell? ⟨w.heap.size + 1, 0, none⟩ = some (.int .i64 tb) ∧ u.cell? ⟨w.heap.size + 1, 1, none⟩ = some (.bool kb) ∧ u.cell? ⟨w.heap.size + 1, 2, none⟩ = some (.int .u16 ib) ∧ Below W.heap.size W u)
    (first | exact ⟨c0, c1, c2, d0, d1, d2, below_drew _⟩ | (go_split_ands; exact ⟨by assumption, by assumption, by assumption, by assumption, by assumption, by assumption, by assumption⟩) | exact keep7 (below_alloc _ _) (by assumption) | exact hkeep2.out | exact hkeep1.out)
    (first
      | (go_at_call 87; refine (cmp_int _ _ _).mono ?_; rintro e u1 ⟨rfl, hwu⟩; obtain rfl := hwu.symm)
      | (go_at_call 88; with_reducible refine (ia1.out _).mono ?_; rintro e u2 ⟨rfl, hbu⟩; have hkeep1 := Lib.hid (keep7 hbu (by assumption)); clear hbu)
      | (go_at_call 88; with_reducible refine (ib1.out _).mono ?_; rintro e u3 ⟨rfl, hbu⟩; have hkeep2 := Lib.hid (keep7 hbu (by assumption)); clear hbu)
      | (go_at_call 86; refine (or2 (cmpI ta tb) (cmpI xa xb) _ _ (by go_simp) (by go_simp)).mono ?_; rintro e u4 ⟨rfl, hwu⟩; obtain rfl := hwu.symm))
  have hfin := Lib.hid (below_step hkeep2.out.2.2.2.2.2.2 hbx.out.1)
  clear hkeep1 hkeep2
  go_wp2
  go_ret
  exact ⟨rfl, below_step (below_alloc _ _) hfin.out⟩

/-- a queue that may be -/
structure QuFit (d : QueD) : Prop where
  res : resB d.res = true
  hs : HsFit d.res.k d.hs
  ws : WsFit d.res.k d.hs d.ws

set_option maxRecDepth 100000 in
set_option maxHeartbeats 2000000 in
theorem mayBe_any (v : QV) (d : QueD) (b : Bool) (hb : b = true ↔ QuFit d) (w : World) (hL : Lay w) (h : v.On w d) (hsm : d.hs.length ≤ 100000 ∧ d.ws.length ≤ 100000) :
    Calls Tryz.prog 39 #[v.val] w (fun e w' => e = .returned (.bool b) ∧ Below w.heap.size w w') := by
  obtain ⟨⟨t, k, id⟩, hq, hn, hc, wq, wn, wc⟩ := v
  obtain ⟨res, hs, ws⟩ := d
  have hres := h.res
  simp only at hres
  subst hres
  have h1 := h.hs
  have h2 := h.ws
  simp only at h1 h2 hsm
  have hn1 : hn ≤ 1000000 := by have := h1.len; omega
  have hn2 : wn ≤ 1000000 := by have := h2.len; omega
  rw [QV.val_eq]
  simp only
  obtain ⟨W, hW⟩ : ∃ W, w.alloc (.cells #[.int .i64 t, .bool k, .int .u16 id, .slice hq hn hc, .slice wq wn wc] 43) = W := ⟨_, rfl⟩
  have hbx := Lib.hid (one_box (xs := [.int .i64 t, .bool k, .int .u16 id, .slice hq hn hc, .slice wq wn wc]) hW)
  have s5 := sizeQue (.int .i64 t) (.bool k) (.int .u16 id) (.slice hq hn hc) (.slice wq wn wc)
  have hho := Lib.hid (h1.below hbx.out.1 (Nat.le_refl _))
  have hwo := Lib.hid (h2.below hbx.out.1 (Nat.le_refl _))
  have hGG := Lib.hid (hL.goes hbx.out.1)
  have hCC := Lib.hid (hL.cov hbx.out.1)
  have hb' := Lib.hid hb
  obtain ⟨rb, hrb⟩ : ∃ rb, resB ⟨t, k, id⟩ = rb := ⟨_, rfl⟩
  obtain ⟨hb2, hhb⟩ := bool_of (HsFit k hs)
  obtain ⟨wb, hwb⟩ := bool_of (WsFit k hs ws)
  have hcr := Lib.hid (fun u => isRes_any t k id u rb hrb)
  have hch := Lib.hid (fun u (hu : Below W.heap.size W u) => holdersFit_any t k id hq hn hc wq wn wc hs hb2 hhb u (hGG.out.below hu) (hho.out.below hu (Nat.le_refl _)) hn1)
  have hcw := Lib.hid (fun u (hu : Below W.heap.size W u) (hso : SortH hs) => waitersFit_any t k id hq hn hc wq wn wc hs ws wb hwb u ⟨hGG.out.below hu, hCC.out.below hu⟩ (hho.out.below hu (Nat.le_refl _)) hso (hwo.out.below hu (Nat.le_refl _)) hn1 hn2)
  have hrb' := Lib.hid hrb
  have hhb' := Lib.hid hhb
  have hwb' := Lib.hid hwb
  have q0 := hbx.out.2.1.cell 0 rfl
  have q1 := hbx.out.2.1.cell 1 rfl
  have q2 := hbx.out.2.1.cell 2 rfl
  clear h hL hb h1 h2 hrb hhb hwb
  cases rb with
  | false =>
    have hfin : Hid (b = false) := no_b hb'.out (fun f => by have h := f.res; have h2 := hrb'.out; simp only at h; rw [h2] at h; cases h)
    go_enter Tryz.func39, Tryz.ntmps39
    go_wp2_with fail
    clear hW
    refine (hcr.out _).mono ?_
    rintro e u1 ⟨rfl, hu1⟩
    have hB1 := Lib.hid (below_step hu1 hbx.out.1)
    clear hu1
    go_wp2
    go_ret
    exact ⟨ret_b hfin.out.symm, hB1.out⟩
  | true =>
    cases hb2 with
    | false =>
      have hfin : Hid (b = false) := no_b hb'.out (fun f => by have h := hhb'.out.2 f.hs; cases h)
      go_enter Tryz.func39, Tryz.ntmps39
      go_wp2_with fail
      clear hW
      refine (hcr.out _).mono ?_
      rintro e u1 ⟨rfl, hu1⟩
      have hB1 := Lib.hid hu1
      have hx1 := hbx.out.2.1.below hu1 (Nat.le_refl _)
      have r0 := hx1.cell 0 rfl
      have r1 := hx1.cell 1 rfl
      have r2 := hx1.cell 2 rfl
      have r3 := hx1.cell 3 rfl
      have r4 := hx1.cell 4 rfl
      clear hu1 hx1 q0 q1 q2
      go_wp2_with fail
      refine (hch.out _ hB1.out).mono ?_
      rintro e u2 ⟨rfl, hu2⟩
      have hB2 := Lib.hid (below_step (below_step hu2 hB1.out) hbx.out.1)
      clear hu2 r0 r1 r2 r3 r4
      go_wp2
      go_ret
      exact ⟨ret_b hfin.out.symm, hB2.out⟩
    | true =>
      have hfin : Hid (wb = b) := by
        show _ = _
        cases wb with
        | true => exact (hb'.out.2 ⟨hrb'.out, hhb'.out.1 rfl, hwb'.out.1 rfl⟩).symm
        | false => exact (no_b hb'.out (fun f => by have h := hwb'.out.2 f.ws; cases h)).symm
      have hso := Lib.hid (hhb'.out.1 rfl).sort
      go_enter Tryz.func39, Tryz.ntmps39
      go_wp2_with fail
      clear hW
      refine (hcr.out _).mono ?_
      rintro e u1 ⟨rfl, hu1⟩
      have hB1 := Lib.hid hu1
      have hx1 := hbx.out.2.1.below hu1 (Nat.le_refl _)
      have r0 := hx1.cell 0 rfl
      have r1 := hx1.cell 1 rfl
      have r2 := hx1.cell 2 rfl
      have r3 := hx1.cell 3 rfl
      have r4 := hx1.cell 4 rfl
      clear hu1 hx1 q0 q1 q2
      go_wp2_with fail
      refine (hch.out _ hB1.out).mono ?_
      rintro e u2 ⟨rfl, hu2⟩
      have hB2 := Lib.hid (below_step hu2 hB1.out)
      have hx2 := hbx.out.2.1.below hB2.out (Nat.le_refl _)
      clear hu2 r0 r1 r2 r3 r4
      have r0 := hx2.cell 0 rfl
      have r1 := hx2.cell 1 rfl
      have r2 := hx2.cell 2 rfl
      have r3 := hx2.cell 3 rfl
      have r4 := hx2.cell 4 rfl
      clear hx2
      go_wp2_with fail
      refine (hcw.out _ hB2.out hso.out).mono ?_
      rintro e u3 ⟨rfl, hu3⟩
      have hB3 := Lib.hid (below_step (below_step hu3 hB2.out) hbx.out.1)
      clear hu3 r0 r1 r2 r3 r4
      go_wp2
      go_ret
      exact ⟨ret_b (by simp [hfin.out]), hB3.out⟩
end Go.Proofs.YtbgpppbcffpdbaaGreatDoor

/-! Sort and Compact of numbers of the call's own; waitsTwice of locks. -/
namespace Go.Proofs.YtbgpppbcffpdbaaGreatDoor
open Go.RowKit

theorem OwnS.ofInts {T : TypeId} {w : World} {B g n c : Nat} {cur : Array Value} {l : List Int} (hB : B ≤ g) (hr : w.heap[g]? = some (.cells cur T (0, 0))) (hn : n ≤ c) (hc : c ≤ maxLen) (hs : cur.size = c) (ht : cur.toList.take n = l.map (Value.int .i64)) (hl : l.length = n) : OwnS T w B (.slice (some ⟨g, 0, none⟩) n c) l :=
  OwnS.mk (α := Int) (cur := cur.toList) hB (by unfold RowV; simpa using hr) hn hc (by show cur.toList.length = c * 1; simp [hs]) (by show cur.toList.take (n * 1) = _; rw [Nat.mul_one, ht, cellsI]) hl
theorem sortI_any (q : Option Addr) (n c B : Nat) (T : TypeId) (zs : List Int) (w : World) (h : OwnS T w B (.slice q n c) zs) (hsm : n ≤ 1000000000) :
    Calls Tryz.prog 49 #[.slice q n c] w (fun e w' => e = .returned (.tuple #[]) ∧ OwnS T w' B (.slice q n c) (zs.mergeSort fun x y => decide (x ≤ y)) ∧ w.grownBy w' (q.map (·.block))) := by
  have hl := h.len
  cases q with
  | none =>
    obtain ⟨rfl, rfl, rfl⟩ := h.nil_cap
    refine (Tryz.slices_Sort_int_none none 0 w).mono ?_
    rintro e w' ⟨rfl, rfl⟩
    exact ⟨rfl, (by rw [List.mergeSort_nil]; exact OwnS.nil _ _ _), ⟨rfl, rfl, rfl, Nat.le_refl _, fun _ _ _ => rfl⟩⟩
  | some a =>
    obtain ⟨g, cur, rfl, hB, hr, hnc, hc, hs, ht⟩ := h.opened
    have hs1 : cur.length = c := by rw [hs]; exact Nat.mul_one c
    have ht1 : cur.toArray.toList.take zs.length = zs.map (Value.int .i64) := by
      have : cur.take (n * 1) = cellsL zs := ht
      rw [Nat.mul_one, cellsI, hl] at this
      simpa using this
    subst hl
    refine (Tryz.slices_Sort_int g 0 c zs w (holds_of_blockI hr ht1) hr.lt (by omega)).mono ?_
    rintro e w' ⟨rfl, m, os, rfl⟩
    refine ⟨rfl, ?_, grownBy_sortedI _⟩
    refine OwnS.ofInts hB (heap_sortedI _ hr) hnc hc (by simp [Go.Sort.putCells, hs1]) ?_ (List.length_mergeSort _)
    have := take_putCellsI cur.toArray (zs.mergeSort fun x y => decide (x ≤ y)) (by simp [hs1]; exact hnc)
    rwa [List.length_mergeSort] at this
theorem compactI_any (q : Option Addr) (n c B : Nat) (T : TypeId) (zs : List Int) (w : World) (h : OwnS T w B (.slice q n c) zs) (hsm : n ≤ 1000000000) :
    Calls Tryz.prog 50 #[.slice q n c] w (fun e w' => e = .returned (.slice q (Lib.compact zs).length c) ∧ OwnS T w' B (.slice q (Lib.compact zs).length c) (Lib.compact zs) ∧ w.grownBy w' (q.map (·.block))) := by
  have hl := h.len
  cases q with
  | none =>
    obtain ⟨rfl, rfl, rfl⟩ := h.nil_cap
    refine (Tryz.slices_Compact_int_empty none 0 w).mono ?_
    rintro e w' ⟨rfl, rfl⟩
    exact ⟨rfl, OwnS.nil _ _ _, ⟨rfl, rfl, rfl, Nat.le_refl _, fun _ _ _ => rfl⟩⟩
  | some a =>
    obtain ⟨g, cur, rfl, hB, hr, hnc, hc, hs, ht⟩ := h.opened
    have hs1 : cur.length = c := by rw [hs]; exact Nat.mul_one c
    have ht1 : cur.toArray.toList.take zs.length = zs.map (Value.int .i64) := by
      have : cur.take (n * 1) = cellsL zs := ht
      rw [Nat.mul_one, cellsI, hl] at this
      simpa using this
    subst hl
    have hcl := Lib.compact_length_le zs
    refine (Tryz.slices_Compact_int g 0 c zs w (holds_of_blockI hr ht1) (by omega) hnc).mono ?_
    rintro e w' ⟨rfl, m, rfl⟩
    obtain ⟨D, hD⟩ : ∃ D, Lib.compact zs ++ List.replicate (zs.length - (Lib.compact zs).length) 0 = D := ⟨_, rfl⟩
    have hDl : D.length = zs.length := by rw [← hD]; simp; omega
    rw [hD]
    have hgr := grownBy_sortedI (w := w) (g := g) (n := m) (os := #[]) D.toArray
    have hhp := heap_sortedI (n := m) (os := #[]) D.toArray hr
    rw [Go.Sort.grow_empty] at hgr hhp
    refine ⟨rfl, ?_, hgr⟩
    refine OwnS.ofInts hB hhp (by omega) hc (by simp [Go.Sort.putCells, hs1]) ?_ rfl
    have h3 := take_putCellsI cur.toArray D (by simp [hs1]; omega)
    have h4 := congrArg (List.take (Lib.compact zs).length) h3
    rw [List.take_take, Nat.min_eq_left (by omega)] at h4
    rw [h4, ← List.map_take, ← hD, List.take_left]

/-- numbers that rise: something goes just if one stands there twice -/
theorem compact_twice {l : List Int} (hs : l.Pairwise (fun x y => decide (x ≤ y) = true)) : (Lib.compact l).length < l.length ↔ ¬ l.Nodup := by
  constructor
  · intro hlt hn
    rw [Lib.compact_all l (fun j hj => ?_)] at hlt
    · omega
    · unfold Lib.keeps
      by_cases h0 : j = 0
      · simp [h0]
      · refine decide_eq_true (.inr ?_)
        have h1 : l.toArray[j]! = l[j] := by simp [hj]
        have h2 : l.toArray[j - 1]! = l[j - 1]'(by omega) := by simp [show j - 1 < l.length by omega]
        rw [h1, h2]
        exact fun e => (List.pairwise_iff_getElem.1 hn (j - 1) j (by omega) hj (by omega)) e.symm
  · intro hn
    have hex : ∃ i, ∃ h : i + 1 < l.length, l[i]'(by omega) = l[i + 1] := by
      apply Classical.byContradiction
      intro hno
      apply hn
      have hlt : ∀ i, (h : i + 1 < l.length) → l[i]'(by omega) < l[i + 1] := fun i h => by
        have h1 := List.pairwise_iff_getElem.1 hs i (i + 1) (by omega) h (by omega)
        have h2 : l[i]'(by omega) ≠ l[i + 1] := fun e => hno ⟨i, h, e⟩
        have h3 := of_decide_eq_true h1
        omega
      have key : ∀ (d i : Nat), (h : i + d + 1 < l.length) → l[i]'(by omega) < l[i + d + 1] := by
        intro d
        induction d with
        | zero => exact fun i h => hlt i h
        | succ d ih => exact fun i h => Int.lt_trans (ih i (by omega)) (hlt (i + d + 1) h)
      refine List.pairwise_iff_getElem.2 fun i j hi hj hij => ?_
      have := key (j - i - 1) i (by omega)
      have e : i + (j - i - 1) + 1 = j := by omega
      simp only [e] at this
      omega
    obtain ⟨i, h, e⟩ := hex
    unfold Lib.compact Lib.compactUpTo
    rw [List.length_map]
    have h3 : ((List.range l.length).filter (Lib.keeps l.toArray)).length < (List.range l.length).length := by
      rw [List.length_filter_lt_length_iff_exists]
      refine ⟨i + 1, List.mem_range.2 h, ?_⟩
      rw [Lib.keeps_neg (by omega)]
      · simp
      · simp [h, show i < l.length by omega, e]
    simpa using h3

/-- all who wait -/
def txL (L : List QueD) : List Int := L.flatMap (fun d => d.ws.map (·.x))
theorem txL_take {L : List QueD} {k : Nat} {d : QueD} (h : L[k]? = some d) : txL (L.take (k + 1)) = txL (L.take k) ++ d.ws.map (·.x) := by
  unfold txL
  rw [List.take_add_one, h, List.flatMap_append]
  simp
def Sm (L : List QueD) : Prop := ∀ d ∈ L, d.hs.length ≤ 100000 ∧ d.ws.length ≤ 100000
theorem Sm.at {L : List QueD} (h : Sm L) {k : Nat} {d : QueD} (hd : L[k]? = some d) : d.hs.length ≤ 100000 ∧ d.ws.length ≤ 100000 := h d (List.mem_of_getElem? hd)
set_option maxRecDepth 200000 in
theorem txL_len {L : List QueD} (h : Sm L) : ∀ k, (txL (L.take k)).length ≤ k * 100000
  | 0 => by simp [txL]
  | k + 1 => by
    have ih := txL_len h k
    cases hk : L[k]? with
    | none => rw [List.take_add_one, hk, Option.toList_none, List.append_nil]; exact Nat.le_trans ih (Nat.mul_le_mul_right _ (Nat.le_succ k))
    | some d =>
      rw [txL_take hk, List.length_append, List.length_map]
      have := (h.at hk).2
      omega
theorem twice_iff {l : List Int} : (decide (((Lib.compact (l.mergeSort fun x y => decide (x ≤ y))).length : Int) < l.length)) = true ↔ ¬ l.Nodup := by
  have hs : (l.mergeSort fun x y => decide (x ≤ y)).Pairwise (fun x y => decide (x ≤ y) = true) :=
    List.pairwise_mergeSort (fun a b c h1 h2 => by simp at *; omega) (fun a b => by simp; omega) l
  have h1 := compact_twice hs
  rw [List.length_mergeSort, (List.mergeSort_perm l _).nodup_iff] at h1
  rw [decide_eq_true_iff, ← h1]
  omega

set_option maxRecDepth 100000 in
set_option maxHeartbeats 2000000 in
theorem waitsTwice_any (q : Option Addr) (n c : Nat) (V : List QV) (L : List QueD) (b : Bool) (hb : b = true ↔ ¬ (txL L).Nodup) (w : World) (h : LkOn w q n c V L) (hn : n ≤ 500) (hsm : Sm L) :
    Calls Tryz.prog 38 #[.agg #[.slice q n c]] w (fun e w' => e = .returned (.bool b) ∧ Below w.heap.size w w') := by
  obtain ⟨W, hW⟩ : ∃ W, w.alloc (.cells #[.slice q n c] 24) = W := ⟨_, rfl⟩
  have hbx := Lib.hid (one_box (xs := [.slice q n c]) hW)
  have hh := Lib.hid (h.below hbx.out.1 (Nat.le_refl _))
  have hll := Lib.hid h.len
  have hsm' := Lib.hid hsm
  have hb' := Lib.hid hb
  have c0 := hbx.out.2.1.cell 0 rfl
  have ho0 : Hid (OwnS 3 W W.heap.size (.slice none 0 0) (txL (L.take 0))) := OwnS.nil _ _ _
  clear h hb hsm
  go_enter Tryz.func38, Tryz.ntmps38
  go_wp2
  clear hW c0
  go_loopw [3, 11] (fun v3 v11 wr => ∃ (k : Nat) (q0 : Option Addr) (n0 c0 : Nat), k ≤ n ∧ v11 = .int .i64 k ∧ v3 = .slice q0 n0 c0 ∧ Hid (Below W.heap.size W wr ∧ OwnS 3 wr W.heap.size (.slice q0 n0 c0) (txL (L.take k)))) (fun _ v11 _ => n - (intOf v11).toNat)
  case atStart => exact ⟨0, none, 0, 0, Nat.zero_le _, rfl, rfl, Below.refl _ _, ho0.out⟩
  case round =>
    obtain ⟨k, q0, n0, c0, hk, rfl, rfl, hr⟩ := hrel
    obtain ⟨wo, rfl⟩ : ∃ x, x = wr := ⟨_, rfl⟩
    have hn0 : Hid (n0 ≤ k * 100000) := by have h1 := hr.out.2.len; have h2 := txL_len hsm'.out k; show _ ≤ _; omega
    by_cases hlt : k < n
    · obtain ⟨A, ⟨⟨at_, ak, ai⟩, hq, hn', hc, wq, wn, wc⟩, ⟨res, hs, ws⟩, hqA, hV, hLk, hon0, hcA0⟩ := hh.out.at hlt
      subst hqA
      have hws := Lib.hid hon0.ws
      have hon := hon0.below hr.out.1 (Nat.le_refl _)
      have hcA := fun j x hj => cell_kept hr.out.1 (Nat.le_refl _) (hcA0 j x hj)
      have hcell : Hid (∀ j' v, ([.int .i64 at_, .bool ak, .int .u16 ai, .slice hq hn' hc, .slice wq wn wc] : List Value)[j']? = some v → wo.cell? ((A.add (k * 5)).add j') = some v) := hcA
      have hs2 := sizeQue (.int .i64 at_) (.bool ak) (.int .u16 ai) (.slice hq hn' hc) (.slice wq wn wc)
      have hL' := Lib.hid hLk
      have i0 : (0 : Int) ≤ k := by omega
      have i1 : (k : Int) < n := by omega
      obtain ⟨WA, hWA⟩ : ∃ W', wo.alloc (.cells #[.int .i64 at_, .bool ak, .int .u16 ai, .slice hq hn' hc, .slice wq wn wc] 43) = W' := ⟨_, rfl⟩
      have hbA := Lib.hid (one_box (xs := [.int .i64 at_, .bool ak, .int .u16 ai, .slice hq hn' hc, .slice wq wn wc]) hWA)
      have hBA := Lib.hid (below_step hbA.out.1 hr.out.1)
      have hoA := Lib.hid (hr.out.2.below hbA.out.1)
      have hwn : Hid (wn ≤ 100000) := by have h1 := (hsm'.out.at hLk).2; have h2 := hon.ws.len; show _ ≤ _; simp only at h1 h2; omega
      have hwl : Hid (ws.length = wn) := hon.ws.len
      have hwn2 : wn ≤ 100000 := hwn.out
      have c4 := hbA.out.2.1.cell 4 rfl
      have hst0 : Hid (OwnS 3 WA W.heap.size (.slice q0 n0 c0) (txL (L.take k) ++ (ws.take 0).map (·.x))) := by show OwnS _ _ _ _ _; simpa using hoA.out
      clear hcA hon hV hLk hon0 hcA0
      go_wp2_with (first
        | (with_reducible refine wpList_load_at rfl 43 (.tmp 13) rfl Tryz.underlying43 rfl hs2 rfl hcell.out ?_))
      clear hWA hcell c4
      go_loopw [3, 18] (fun v3 v18 wr => ∃ (j : Nat) (q1 : Option Addr) (n1 c1 : Nat), j ≤ wn ∧ v18 = .int .i64 j ∧ v3 = .slice q1 n1 c1 ∧ Hid (Below W.heap.size W wr ∧ OwnS 3 wr W.heap.size (.slice q1 n1 c1) (txL (L.take k) ++ (ws.take j).map (·.x)))) (fun _ v18 _ => wn - (intOf v18).toNat)
      case atStart => exact ⟨0, q0, n0, c0, Nat.zero_le _, rfl, rfl, hBA.out, hst0.out⟩
      case round =>
        obtain ⟨j, q1, n1, c1, hj, rfl, rfl, hr2⟩ := hrel
        have hn1 : Hid (n1 ≤ k * 100000 + j) := by have h1 := hr2.out.2.len; have h2 := txL_len hsm'.out k; rw [List.length_append, List.length_map, List.length_take] at h1; show _ ≤ _; omega
        by_cases hjn : j < wn
        · obtain ⟨A2, ⟨ax, am, ah⟩, hqA2, hm, hcm⟩ := (hws.out.below hr2.out.1 (Nat.le_refl _)).at hjn
          subst hqA2
          have hcell2 : Hid (∀ j' v, ([.int .i64 ax, .int .i64 am, .int .i64 ah] : List Value)[j']? = some v → wr.cell? ((A2.add (j * 3)).add j') = some v) := hcm
          have hs3 := sizeWait (.int .i64 ax) (.int .i64 am) (.int .i64 ah)
          have j0 : (0 : Int) ≤ j := by omega
          have j1 : (j : Int) < wn := by omega
          have hstp : Hid (txL (L.take k) ++ (ws.take (j + 1)).map (·.x) = (txL (L.take k) ++ (ws.take j).map (·.x)) ++ [ax]) := by
            show _ = _
            rw [List.take_add_one, hm, List.map_append, List.append_assoc]; rfl
          clear hm hcm
          obtain ⟨W1, hW1⟩ : ∃ W', wr.alloc (.cells #[.int .i64 ax, .int .i64 am, .int .i64 ah] 47) = W' := ⟨_, rfl⟩
          have hb1 := Lib.hid (one_box (xs := [.int .i64 ax, .int .i64 am, .int .i64 ah]) hW1)
          obtain ⟨W6, hW6⟩ : ∃ W', W1.alloc (.cells #[.int .i64 ax] 3) = W' := ⟨_, rfl⟩
          have hb6 := Lib.hid (one_box (xs := [.int .i64 ax]) hW6)
          have hrow : Hid (SlOn W6 (some ⟨W1.heap.size, 0, none⟩) 1 1 [ax]) := by
            have h0 := RowV.made (T := 3) W1 [.int .i64 ax]
            rw [hW6] at h0
            exact (OwnS.single (r := ax) h0).reads
          have e0 := hb1.out.2.1.cell 0 rfl
          have hB6 := Lib.hid (below_step hb6.out.1 (below_step hb1.out.1 hr2.out.1))
          have ho6 := Lib.hid ((hr2.out.2.below hb1.out.1).below hb6.out.1)
          have h40 : Hid ((n1 + 1) * 8 ≤ 140737488355328) := by have := hn1.out; have := hwn.out; show _ ≤ _; omega
          have h41 : Hid (n1 + 1 ≤ 140737488355328) := by have := hn1.out; have := hwn.out; show _ ≤ _; omega
          have hsz := Lib.hid hB6.out.size
          go_wp2_with (first
            | (with_reducible refine wpList_load_at rfl 47 (.tmp 20) rfl Tryz.underlying47 rfl hs3 rfl hcell2.out ?_)
            | (at_builtin
               refine wpList_append_l Tryz.underlying33 infoInt rfl rfl (.tmp 22) (.tmp 25) rfl rfl rfl ho6.out hrow.out h40.out h41.out hsz.out ?_
               intro q' c' w' h1 h2 h3
               rw [← hstp.out] at h1
               have hh1 := Lib.hid h1
               have hh2 : Hid (Below W.heap.size W w') := hB6.out.trans (grown_belowN h2 hB6.out.size (fun a ha => by
                 cases q1 with
                 | none => cases ha
                 | some a0 => cases ha; exact (ho6.out.far a0 rfl).1))
               clear h1 h2 h3))
          go_roundw
          case rel => exact ⟨j + 1, q', n1 + 1, c', by omega, by go_num, rfl, hh2.out, hh1.out⟩
          case measure => simp [intOf]; omega
        · obtain rfl : wn = j := by omega
          have hst2 : Hid (OwnS 3 wr W.heap.size (.slice q1 n1 c1) (txL (L.take (k + 1)))) := by
            have h1 := hr2.out.2
            rw [List.take_of_length_le (l := ws) (by rw [hwl.out]; exact Nat.le_refl _)] at h1
            show OwnS _ _ _ _ _
            rw [txL_take hL'.out]
            exact h1
          go_wp2
          go_roundw
          case rel => exact ⟨k + 1, q1, n1, c1, by omega, by go_num, rfl, hr2.out.1, hst2.out⟩
          case measure => simp [intOf]; omega
    · obtain rfl : n = k := by omega
      have hall : Hid (OwnS 3 wo W.heap.size (.slice q0 n0 c0) (txL L)) := by
        have h1 := hr.out.2
        rw [List.take_of_length_le (by rw [hll.out]; exact Nat.le_refl _)] at h1
        exact h1
      have hn0' : Hid (n0 ≤ 50000000) := by have := hn0.out; show _ ≤ _; omega
      have hlen : Hid (n0 = (txL L).length) := hall.out.len
      have hso := Lib.hid (sortI_any q0 n0 c0 W.heap.size 3 (txL L) wo hall.out (by have := hn0'.out; omega))
      have hti := Lib.hid (twice_iff (l := txL L))
      go_wp2_with fail
      refine hso.out.mono ?_
      rintro e w1 ⟨rfl, h1, h2⟩
      have hs1 := Lib.hid h1
      have hB1 : Hid (Below W.heap.size W w1) := hr.out.1.trans (grown_belowN h2 hr.out.1.size (fun a ha => by
        cases q0 with
        | none => cases ha
        | some a0 => cases ha; exact (hall.out.far a0 rfl).1))
      have hco := Lib.hid (compactI_any q0 n0 c0 W.heap.size 3 _ w1 h1 (by have := hn0'.out; omega))
      clear h1 h2
      obtain ⟨m, hm⟩ : ∃ m, (Lib.compact ((txL L).mergeSort fun x y => decide (x ≤ y))).length = m := ⟨_, rfl⟩
      rw [hm, ← hlen.out] at hti
      rw [hm] at hco
      clear hm
      go_wp2_with fail
      refine hco.out.mono ?_
      rintro e w2 ⟨rfl, h1, h2⟩
      have hB2 : Hid (Below W.heap.size W w2) := hB1.out.trans (grown_belowN h2 hB1.out.size (fun a ha => by
        cases q0 with
        | none => cases ha
        | some a0 => cases ha; exact (hs1.out.far a0 rfl).1))
      have hfin : Hid (decide ((m : Int) < n0) = b) := by
        show _ = _
        cases b with
        | true => exact hti.out.2 (hb'.out.1 rfl)
        | false =>
          cases hd : decide ((m : Int) < n0) with
          | false => rfl
          | true => exact absurd (hb'.out.2 (hti.out.1 hd)) (by simp)
      clear h1 h2
      go_wp2
      go_ret
      exact ⟨ret_b (by rw [← hfin.out]; simp), below_step hB2.out hbx.out.1⟩
end Go.Proofs.YtbgpppbcffpdbaaGreatDoor

/-! Check of locks: which locks may be. -/
namespace Go.Proofs.YtbgpppbcffpdbaaGreatDoor
open Go.RowKit

/-- locks that may be -/
structure ChkOk (L : List QueD) : Prop where
  len : L.length ≤ 500
  nodup : (txL L).Nodup
  fit : ∀ d ∈ L, QuFit d
  ord : ∀ (j : Nat) p a, L[j]? = some p → L[j + 1]? = some a → cmpR p.res a.res < 0
structure ChkR (L : List QueD) (K : Nat) : Prop where
  fit : ∀ (i : Nat) d, i < K → L[i]? = some d → QuFit d
  ord : ∀ (j : Nat) p a, j + 1 < K → L[j]? = some p → L[j + 1]? = some a → cmpR p.res a.res < 0
theorem ChkR.step {L : List QueD} {K : Nat} {d : QueD} (h : ChkR L K) (hx : L[K]? = some d) (hf : QuFit d) (ho : ∀ j p, K = j + 1 → L[j]? = some p → cmpR p.res d.res < 0) : ChkR L (K + 1) := by
  refine ⟨fun i a hi ha => ?_, fun j p a hj hp ha => ?_⟩
  · rcases Nat.lt_or_ge i K with h7 | h7
    · exact h.fit i a h7 ha
    · obtain rfl : i = K := by omega
      rw [hx] at ha; cases ha; exact hf
  · rcases Nat.lt_or_ge (j + 1) K with h7 | h7
    · exact h.ord j p a h7 hp ha
    · obtain rfl : K = j + 1 := by omega
      rw [hx] at ha; cases ha
      exact ho j p rfl hp
theorem ChkR.done {L : List QueD} {n : Nat} (h : ChkR L n) (hl : L.length = n) (hn : n ≤ 500) (hd : (txL L).Nodup) : ChkOk L := by
  refine ⟨by omega, hd, fun d hd => ?_, fun j p a hp ha => h.ord j p a (by have := (List.getElem?_eq_some_iff.1 ha).1; omega) hp ha⟩
  obtain ⟨i, hi⟩ := List.mem_iff_getElem?.1 hd
  exact h.fit i d (by have := (List.getElem?_eq_some_iff.1 hi).1; omega) hi
theorem no_e {e : Int} {P : Prop} (he : (e = 0 ∧ P) ∨ (e = 180 ∧ ¬ P)) (h : ¬ P) : (180 : Int) = e := by
  rcases he with ⟨_, hp⟩ | ⟨h1, _⟩
  · exact absurd hp h
  · exact h1.symm
theorem yes_e {e : Int} {P : Prop} (he : (e = 0 ∧ P) ∨ (e = 180 ∧ ¬ P)) (h : P) : (0 : Int) = e := by
  rcases he with ⟨h1, _⟩ | ⟨_, hp⟩
  · exact h1.symm
  · exact absurd h hp
theorem keep10 {u v W : World} {a1 a2 a3 a4 a5 a6 a7 a8 a9 : Addr} {v1 v2 v3 v4 v5 v6 v7 v8 v9 : Value} (hb : Below u.heap.size u v)
    (h : u.cell? a1 = some v1 ∧ u.cell? a2 = some v2 ∧ u.cell? a3 = some v3 ∧ u.cell? a4 = some v4 ∧ u.cell? a5 = some v5 ∧ u.cell? a6 = some v6 ∧ u.cell? a7 = some v7 ∧ u.cell? a8 = some v8 ∧ u.cell? a9 = some v9 ∧ Below W.heap.size W u) :
    v.cell? a1 = some v1 ∧ v.cell? a2 = some v2 ∧ v.cell? a3 = some v3 ∧ v.cell? a4 = some v4 ∧ v.cell? a5 = some v5 ∧ v.cell? a6 = some v6 ∧ v.cell? a7 = some v7 ∧ v.cell? a8 = some v8 ∧ v.cell? a9 = some v9 ∧ Below W.heap.size W v := by
  obtain ⟨h1, h2, h3, h4, h5, h6, h7, h8, h9, h10⟩ := h
  have e := Nat.le_refl u.heap.size
  exact ⟨cell_kept hb e h1, cell_kept hb e h2, cell_kept hb e h3, cell_kept hb e h4, cell_kept hb e h5, cell_kept hb e h6, cell_kept hb e h7, cell_kept hb e h8, cell_kept hb e h9, below_step hb h10⟩

set_option maxRecDepth 100000 in
set_option maxHeartbeats 4000000 in
theorem check_any (q : Option Addr) (n c : Nat) (V : List QV) (L : List QueD) (e : Int) (he : (e = 0 ∧ ChkOk L) ∨ (e = 180 ∧ ¬ ChkOk L)) (w : World) (hL : Lay w) (h : LkOn w q n c V L) (hsm : Sm L) :
    Calls Tryz.prog 17 #[.agg #[.slice q n c]] w (fun e' w' => e' = .returned (.int .i64 e) ∧ Below w.heap.size w w') := by
  obtain ⟨W, hW⟩ : ∃ W, w.alloc (.cells #[.slice q n c] 24) = W := ⟨_, rfl⟩
  have hbx := Lib.hid (one_box (xs := [.slice q n c]) hW)
  have hh := Lib.hid (h.below hbx.out.1 (Nat.le_refl _))
  have hll := Lib.hid h.len
  have hGG := Lib.hid (hL.goes hbx.out.1)
  have hCC := Lib.hid (hL.cov hbx.out.1)
  have hsm' := Lib.hid hsm
  have he' := Lib.hid he
  have c0 := hbx.out.2.1.cell 0 rfl
  have s1 := sizeLks (.slice q n c)
  clear h he hL hsm
  by_cases hn : n ≤ 500
  case neg =>
    have hgt : (500 : Int) < n := by omega
    have hfin : Hid ((180 : Int) = e) := no_e he'.out (fun f => hn (by have := f.len; have := hll.out; omega))
    go_enter Tryz.func17, Tryz.ntmps17
    go_wp2
    go_ret
    exact ⟨ret_i hfin.out, hbx.out.1⟩
  case pos =>
  have hle : ¬ (500 : Int) < n := by omega
  obtain ⟨tb, htb⟩ := bool_of (¬ (txL L).Nodup)
  have hct := Lib.hid (waitsTwice_any q n c V L tb htb W hh.out hn hsm'.out)
  have htb' := Lib.hid htb
  clear htb
  cases tb with
  | true =>
    have hfin : Hid ((180 : Int) = e) := no_e he'.out (fun f => htb'.out.1 rfl f.nodup)
    go_enter Tryz.func17, Tryz.ntmps17
    go_wp2_with fail
    clear hW
    refine hct.out.mono ?_
    rintro e1 w1 ⟨rfl, h1⟩
    have hB1 := Lib.hid (below_step h1 hbx.out.1)
    clear h1 c0
    go_wp2
    go_ret
    exact ⟨ret_i hfin.out, hB1.out⟩
  | false =>
    have hnd : Hid ((txL L).Nodup) := Classical.byContradiction fun hno => by have := htb'.out.2 hno; cases this
    go_enter Tryz.func17, Tryz.ntmps17
    go_wp2_with fail
    clear hW
    refine hct.out.mono ?_
    rintro e1 w1 ⟨rfl, h1⟩
    have hB1 := Lib.hid h1
    have c1 := (hbx.out.2.1.below h1 (Nat.le_refl _)).cell 0 rfl
    clear h1 c0
    go_wp2
    clear c1
    go_loopw [16] (fun v16 wr => ∃ K : Nat, K ≤ n ∧ v16 = .int .i64 K ∧ Hid (Below W.heap.size W wr) ∧ Hid (ChkR L K)) (fun v16 _ => n - (intOf v16).toNat)
    case atStart => exact ⟨0, Nat.zero_le _, rfl, hB1.out, (fun i d hi => by omega), fun j p a hj => by omega⟩
    case round =>
      obtain ⟨K, hK, rfl, hbr, hr⟩ := hrel
      by_cases hlt : K < n
      · obtain ⟨A, ⟨⟨at_, ak, ai⟩, hq, hn', hc, wq, wn, wc⟩, ⟨res, hs, ws⟩, hqA, hV, hLk, hon0, hcA0⟩ := hh.out.at hlt
        have hres : res = ⟨at_, ak, ai⟩ := hon0.res.symm
        subst hres
        subst hqA
        have hcell : Hid (∀ j' v, ([.int .i64 at_, .bool ak, .int .u16 ai, .slice hq hn' hc, .slice wq wn wc] : List Value)[j']? = some v → wr.cell? ((A.add (K * 5)).add j') = some v) := fun j x hj => cell_kept hbr.out (Nat.le_refl _) (hcA0 j x hj)
        have hs2 := sizeQue (.int .i64 at_) (.bool ak) (.int .u16 ai) (.slice hq hn' hc) (.slice wq wn wc)
        have hx' := Lib.hid hLk
        have hidx := Lib.hid hon0.ok
        have i0 : (0 : Int) ≤ K := by omega
        have i1 : (K : Int) < n := by omega
        obtain ⟨WA, hWA⟩ : ∃ W', wr.alloc (.cells #[.int .i64 at_, .bool ak, .int .u16 ai, .slice hq hn' hc, .slice wq wn wc] 43) = W' := ⟨_, rfl⟩
        have hbA := Lib.hid (one_box (xs := [.int .i64 at_, .bool ak, .int .u16 ai, .slice hq hn' hc, .slice wq wn wc]) hWA)
        have hBA := Lib.hid (below_step hbA.out.1 hbr.out)
        obtain ⟨B, hB⟩ : ∃ B, wr.heap.size = B := ⟨_, rfl⟩
        have hbB : Hid (Boxed WA B [.int .i64 at_, .bool ak, .int .u16 ai, .slice hq hn' hc, .slice wq wn wc]) := by have h := hbA.out.2.1; rw [hB] at h; exact h
        obtain ⟨mb, hmb⟩ := bool_of (QuFit ⟨⟨at_, ak, ai⟩, hs, ws⟩)
        have hcm : Hid (∀ u, Below WA.heap.size WA u → Calls Tryz.prog 39 #[.agg #[.int .i64 at_, .bool ak, .int .u16 ai, .slice hq hn' hc, .slice wq wn wc]] u (fun e w' => e = .returned (.bool mb) ∧ Below u.heap.size u w')) := fun u hu =>
          mayBe_any ⟨⟨at_, ak, ai⟩, hq, hn', hc, wq, wn, wc⟩ ⟨⟨at_, ak, ai⟩, hs, ws⟩ mb hmb u ⟨hGG.out.below (below_step hu hBA.out), hCC.out.below (below_step hu hBA.out)⟩ (hon0.below (below_step hu hBA.out) (Nat.le_refl _)) (hsm'.out.at hLk)
        have hmb' := Lib.hid hmb
        clear hcA0 hV hLk hon0 hmb
        go_wp2_with (first
          | (with_reducible refine wpList_load_at rfl 43 (.tmp 19) rfl Tryz.underlying43 rfl hs2 rfl hcell.out ?_))
        clear hWA hB
        cases mb with
        | false =>
          have hfin : Hid ((180 : Int) = e) := no_e he'.out (fun f => by have h := hmb'.out.2 (f.fit _ (List.mem_of_getElem? hx'.out)); cases h)
          refine wp_region_held (S := fun u => Below WA.heap.size WA u) (by kernel_rfl) ?_
          have hW1 : ({ WA with drawn := WA.drawn + 1 } : World) = WA.drew := rfl
          rw [hW1]
          clear hW1
          have hS0 : Below WA.heap.size WA WA.drew := below_drew WA
          refine held_take (i := 0) (dst := some 21) (v := .agg #[.int .i64 at_, .bool ak, .int .u16 ai, .slice hq hn' hc, .slice wq wn wc]) rfl rfl (by kernel_rfl) (by kernel_rfl) (by kernel_rfl) (fun _ _ _ h => h) (.inl ⟨rfl, fun u hu => by have e0 := (hbB.out.below hu (Nat.le_refl _)).cell 0 rfl; have e1 := (hbB.out.below hu (Nat.le_refl _)).cell 1 rfl; have e2 := (hbB.out.below hu (Nat.le_refl _)).cell 2 rfl; have e3 := (hbB.out.below hu (Nat.le_refl _)).cell 3 rfl; have e4 := (hbB.out.below hu (Nat.le_refl _)).cell 4 rfl; go_simp⟩) hS0 ?_
          go_frame
          refine held_call (i := 1) (dst := some 22) rfl rfl (by kernel_rfl) rfl (by go_simp) (hcm.out _ hS0) ?_
          rintro e u1 ⟨rfl, hb1⟩
          have hS1 := below_step hb1 hS0
          refine ⟨_, rfl, hS1, ?_⟩
          go_frame
          refine held_take (i := 2) (dst := some 23) (v := .bool true) rfl rfl (by kernel_rfl) (by kernel_rfl) (by kernel_rfl) (fun _ _ _ h => h) (.inl ⟨rfl, fun u hu => by have e0 := (hbB.out.below hu (Nat.le_refl _)).cell 0 rfl; have e1 := (hbB.out.below hu (Nat.le_refl _)).cell 1 rfl; have e2 := (hbB.out.below hu (Nat.le_refl _)).cell 2 rfl; have e3 := (hbB.out.below hu (Nat.le_refl _)).cell 3 rfl; have e4 := (hbB.out.below hu (Nat.le_refl _)).cell 4 rfl; go_simp⟩) hS1 ?_
          go_frame
          refine held_take (i := 3) (dst := some 24) (v := .bool true) rfl rfl (by kernel_rfl) (by kernel_rfl) (by kernel_rfl) (fun _ _ _ h => h) (y_move (.tmp 23) rfl rfl rfl) hS1 ?_
          go_frame
          refine held_take (i := 4) (dst := some 25) (v := undef) rfl rfl (by kernel_rfl) (by kernel_rfl) (by kernel_rfl) (fun _ _ _ h => h) (.inr ⟨rfl, rfl⟩) hS1 ?_
          go_frame
          refine held_take (i := 5) (dst := some 26) (v := undef) rfl rfl (by kernel_rfl) (by kernel_rfl) (by kernel_rfl) (fun _ _ _ h => h) (.inr ⟨rfl, rfl⟩) hS1 ?_
          go_frame
          refine held_take (i := 6) (dst := some 27) (v := undef) rfl rfl (by kernel_rfl) (by kernel_rfl) (by kernel_rfl) (fun _ _ _ h => h) (.inr ⟨rfl, rfl⟩) hS1 ?_
          go_frame
          refine held_take (i := 7) (dst := some 28) (v := undef) rfl rfl (by kernel_rfl) (by kernel_rfl) (by kernel_rfl) (fun _ _ _ h => h) (.inr ⟨rfl, rfl⟩) hS1 ?_
          go_frame
          refine held_take (i := 8) (dst := some 29) (v := undef) rfl rfl (by kernel_rfl) (by kernel_rfl) (by kernel_rfl) (fun _ _ _ h => h) (.inr ⟨rfl, rfl⟩) hS1 ?_
          go_frame
          refine held_take (i := 9) (dst := some 30) (v := undef) rfl rfl (by kernel_rfl) (by kernel_rfl) (by kernel_rfl) (fun _ _ _ h => h) (.inr ⟨rfl, rfl⟩) hS1 ?_
          go_frame
          refine held_take (i := 10) (dst := some 31) (v := undef) rfl rfl (by kernel_rfl) (by kernel_rfl) (by kernel_rfl) (fun _ _ _ h => h) (.inr ⟨rfl, rfl⟩) hS1 ?_
          go_frame
          refine held_take (i := 11) (dst := some 32) (v := undef) rfl rfl (by kernel_rfl) (by kernel_rfl) (by kernel_rfl) (fun _ _ _ h => h) (.inr ⟨rfl, rfl⟩) hS1 ?_
          go_frame
          refine held_take (i := 12) (dst := some 33) (v := undef) rfl rfl (by kernel_rfl) (by kernel_rfl) (by kernel_rfl) (fun _ _ _ h => h) (.inr ⟨rfl, rfl⟩) hS1 ?_
          go_frame
          refine held_take (i := 13) (dst := some 34) (v := undef) rfl rfl (by kernel_rfl) (by kernel_rfl) (by kernel_rfl) (fun _ _ _ h => h) (.inr ⟨rfl, rfl⟩) hS1 ?_
          go_frame
          refine held_take (i := 14) (dst := some 35) (v := undef) rfl rfl (by kernel_rfl) (by kernel_rfl) (by kernel_rfl) (fun _ _ _ h => h) (.inr ⟨rfl, rfl⟩) hS1 ?_
          go_frame
          refine held_take (i := 15) (dst := some 36) (v := undef) rfl rfl (by kernel_rfl) (by kernel_rfl) (by kernel_rfl) (fun _ _ _ h => h) (.inr ⟨rfl, rfl⟩) hS1 ?_
          go_frame
          refine held_take (i := 16) (dst := some 37) (v := undef) rfl rfl (by kernel_rfl) (by kernel_rfl) (by kernel_rfl) (fun _ _ _ h => h) (.inr ⟨rfl, rfl⟩) hS1 ?_
          go_frame
          refine held_take (i := 17) (dst := some 38) (v := undef) rfl rfl (by kernel_rfl) (by kernel_rfl) (by kernel_rfl) (fun _ _ _ h => h) (.inr ⟨rfl, rfl⟩) hS1 ?_
          go_frame
          refine held_take (i := 18) (dst := some 39) (v := undef) rfl rfl (by kernel_rfl) (by kernel_rfl) (by kernel_rfl) (fun _ _ _ h => h) (.inr ⟨rfl, rfl⟩) hS1 ?_
          go_frame
          refine held_take (i := 19) (dst := some 40) (v := .bool true) rfl rfl (by kernel_rfl) (by kernel_rfl) (by kernel_rfl) (fun _ _ _ h => h) (.inl ⟨rfl, fun u hu => by have e0 := (hbB.out.below hu (Nat.le_refl _)).cell 0 rfl; have e1 := (hbB.out.below hu (Nat.le_refl _)).cell 1 rfl; have e2 := (hbB.out.below hu (Nat.le_refl _)).cell 2 rfl; have e3 := (hbB.out.below hu (Nat.le_refl _)).cell 3 rfl; have e4 := (hbB.out.below hu (Nat.le_refl _)).cell 4 rfl; go_simp⟩) hS1 ?_
          go_frame
          refine wpAnyH_done (by kernel_rfl) ?_ _
          have hS9 := Lib.hid (below_step (below_step hS1 hBA.out) hbx.out.1)
          go_wp2
          go_ret
          exact ⟨ret_i hfin.out, hS9.out⟩
        | true =>
          have hqf : Hid (QuFit ⟨⟨at_, ak, ai⟩, hs, ws⟩) := hmb'.out.1 rfl
          clear hmb'
          rcases Nat.eq_zero_or_pos K with hk0 | hpos
          · subst hk0
            refine wp_region_held (S := fun u => Below WA.heap.size WA u) (by kernel_rfl) ?_
            have hW1 : ({ WA with drawn := WA.drawn + 1 } : World) = WA.drew := rfl
            rw [hW1]
            clear hW1
            have hS0 : Below WA.heap.size WA WA.drew := below_drew WA
            refine held_take (i := 0) (dst := some 21) (v := .agg #[.int .i64 at_, .bool ak, .int .u16 ai, .slice hq hn' hc, .slice wq wn wc]) rfl rfl (by kernel_rfl) (by kernel_rfl) (by kernel_rfl) (fun _ _ _ h => h) (.inl ⟨rfl, fun u hu => by have e0 := (hbB.out.below hu (Nat.le_refl _)).cell 0 rfl; have e1 := (hbB.out.below hu (Nat.le_refl _)).cell 1 rfl; have e2 := (hbB.out.below hu (Nat.le_refl _)).cell 2 rfl; have e3 := (hbB.out.below hu (Nat.le_refl _)).cell 3 rfl; have e4 := (hbB.out.below hu (Nat.le_refl _)).cell 4 rfl; go_simp⟩) hS0 ?_
            go_frame
            refine held_call (i := 1) (dst := some 22) rfl rfl (by kernel_rfl) rfl (by go_simp) (hcm.out _ hS0) ?_
            rintro e u1 ⟨rfl, hb1⟩
            have hS1 := below_step hb1 hS0
            refine ⟨_, rfl, hS1, ?_⟩
            go_frame
            refine held_take (i := 2) (dst := some 23) (v := .bool false) rfl rfl (by kernel_rfl) (by kernel_rfl) (by kernel_rfl) (fun _ _ _ h => h) (.inl ⟨rfl, fun u hu => by have e0 := (hbB.out.below hu (Nat.le_refl _)).cell 0 rfl; have e1 := (hbB.out.below hu (Nat.le_refl _)).cell 1 rfl; have e2 := (hbB.out.below hu (Nat.le_refl _)).cell 2 rfl; have e3 := (hbB.out.below hu (Nat.le_refl _)).cell 3 rfl; have e4 := (hbB.out.below hu (Nat.le_refl _)).cell 4 rfl; go_simp⟩) hS1 ?_
            go_frame
            refine held_take (i := 3) (dst := some 24) (v := .bool false) rfl rfl (by kernel_rfl) (by kernel_rfl) (by kernel_rfl) (fun _ _ _ h => h) (y_move (.tmp 23) rfl rfl rfl) hS1 ?_
            go_frame
            refine held_take (i := 4) (dst := some 25) (v := .int .i64 0) rfl rfl (by kernel_rfl) (by kernel_rfl) (by kernel_rfl) (fun _ _ _ h => h) (y_move (.tmp 3) rfl rfl rfl) hS1 ?_
            go_frame
            refine held_take (i := 5) (dst := some 26) (v := .bool false) rfl rfl (by kernel_rfl) (by kernel_rfl) (by kernel_rfl) (fun _ _ _ h => h) (.inl ⟨rfl, fun u hu => by have e0 := (hbB.out.below hu (Nat.le_refl _)).cell 0 rfl; have e1 := (hbB.out.below hu (Nat.le_refl _)).cell 1 rfl; have e2 := (hbB.out.below hu (Nat.le_refl _)).cell 2 rfl; have e3 := (hbB.out.below hu (Nat.le_refl _)).cell 3 rfl; have e4 := (hbB.out.below hu (Nat.le_refl _)).cell 4 rfl; go_simp⟩) hS1 ?_
            go_frame
            refine held_take (i := 6) (dst := some 27) (v := .bool false) rfl rfl (by kernel_rfl) (by kernel_rfl) (by kernel_rfl) (fun _ _ _ h => h) (y_move (.tmp 26) rfl rfl rfl) hS1 ?_
            go_frame
            refine held_take (i := 7) (dst := some 28) (v := undef) rfl rfl (by kernel_rfl) (by kernel_rfl) (by kernel_rfl) (fun _ _ _ h => h) (.inr ⟨rfl, rfl⟩) hS1 ?_
            go_frame
            refine held_take (i := 8) (dst := some 29) (v := undef) rfl rfl (by kernel_rfl) (by kernel_rfl) (by kernel_rfl) (fun _ _ _ h => h) (.inr ⟨rfl, rfl⟩) hS1 ?_
            go_frame
            refine held_take (i := 9) (dst := some 30) (v := undef) rfl rfl (by kernel_rfl) (by kernel_rfl) (by kernel_rfl) (fun _ _ _ h => h) (.inr ⟨rfl, rfl⟩) hS1 ?_
            go_frame
            refine held_take (i := 10) (dst := some 31) (v := undef) rfl rfl (by kernel_rfl) (by kernel_rfl) (by kernel_rfl) (fun _ _ _ h => h) (.inr ⟨rfl, rfl⟩) hS1 ?_
            go_frame
            refine held_take (i := 11) (dst := some 32) (v := undef) rfl rfl (by kernel_rfl) (by kernel_rfl) (by kernel_rfl) (fun _ _ _ h => h) (.inr ⟨rfl, rfl⟩) hS1 ?_
            go_frame
            refine held_take (i := 12) (dst := some 33) (v := undef) rfl rfl (by kernel_rfl) (by kernel_rfl) (by kernel_rfl) (fun _ _ _ h => h) (.inr ⟨rfl, rfl⟩) hS1 ?_
            go_frame
            refine held_take (i := 13) (dst := some 34) (v := undef) rfl rfl (by kernel_rfl) (by kernel_rfl) (by kernel_rfl) (fun _ _ _ h => h) (.inr ⟨rfl, rfl⟩) hS1 ?_
            go_frame
            refine held_take (i := 14) (dst := some 35) (v := undef) rfl rfl (by kernel_rfl) (by kernel_rfl) (by kernel_rfl) (fun _ _ _ h => h) (.inr ⟨rfl, rfl⟩) hS1 ?_
            go_frame
            refine held_take (i := 15) (dst := some 36) (v := undef) rfl rfl (by kernel_rfl) (by kernel_rfl) (by kernel_rfl) (fun _ _ _ h => h) (.inr ⟨rfl, rfl⟩) hS1 ?_
            go_frame
            refine held_take (i := 16) (dst := some 37) (v := undef) rfl rfl (by kernel_rfl) (by kernel_rfl) (by kernel_rfl) (fun _ _ _ h => h) (.inr ⟨rfl, rfl⟩) hS1 ?_
            go_frame
            refine held_take (i := 17) (dst := some 38) (v := undef) rfl rfl (by kernel_rfl) (by kernel_rfl) (by kernel_rfl) (fun _ _ _ h => h) (.inr ⟨rfl, rfl⟩) hS1 ?_
            go_frame
            refine held_take (i := 18) (dst := some 39) (v := .bool false) rfl rfl (by kernel_rfl) (by kernel_rfl) (by kernel_rfl) (fun _ _ _ h => h) (.inl ⟨rfl, fun u hu => by have e0 := (hbB.out.below hu (Nat.le_refl _)).cell 0 rfl; have e1 := (hbB.out.below hu (Nat.le_refl _)).cell 1 rfl; have e2 := (hbB.out.below hu (Nat.le_refl _)).cell 2 rfl; have e3 := (hbB.out.below hu (Nat.le_refl _)).cell 3 rfl; have e4 := (hbB.out.below hu (Nat.le_refl _)).cell 4 rfl; go_simp⟩) hS1 ?_
            go_frame
            refine held_take (i := 19) (dst := some 40) (v := .bool false) rfl rfl (by kernel_rfl) (by kernel_rfl) (by kernel_rfl) (fun _ _ _ h => h) (.inl ⟨rfl, fun u hu => by have e0 := (hbB.out.below hu (Nat.le_refl _)).cell 0 rfl; have e1 := (hbB.out.below hu (Nat.le_refl _)).cell 1 rfl; have e2 := (hbB.out.below hu (Nat.le_refl _)).cell 2 rfl; have e3 := (hbB.out.below hu (Nat.le_refl _)).cell 3 rfl; have e4 := (hbB.out.below hu (Nat.le_refl _)).cell 4 rfl; go_simp⟩) hS1 ?_
            go_frame
            refine wpAnyH_done (by kernel_rfl) ?_ _
            have hS9 := Lib.hid (below_step hS1 hBA.out)
            go_wp2
            go_roundw
            case rel => exact ⟨1, by omega, by go_num, hS9.out, hr.out.step hx'.out hqf.out (fun j p hj => by omega)⟩
            case measure => simp [intOf]; omega
          · obtain ⟨m, rfl⟩ : ∃ m, K = m + 1 := ⟨K - 1, by omega⟩
            obtain ⟨A', ⟨⟨pt, pk, pi⟩, phq, phn, phc, pwq, pwn, pwc⟩, ⟨pres, phs, pws⟩, hqA', _, hLp, honp, hcp⟩ := (hh.out.below hBA.out (Nat.le_refl _)).at (show m < n by omega)
            cases hqA'
            have hresp : pres = ⟨pt, pk, pi⟩ := honp.res.symm
            subst hresp
            have hy' := Lib.hid hLp
            have hidp := Lib.hid honp.ok
            have p0 : WA.cell? (A.add (m * 5)) = some (.int .i64 pt) := by have h := hcp 0 _ rfl; rwa [add0] at h
            have p1 : WA.cell? ⟨(A.add (m * 5)).block, (A.add (m * 5)).off + 1, none⟩ = some (.bool pk) := hcp 1 _ rfl
            have p2 : WA.cell? ⟨(A.add (m * 5)).block, (A.add (m * 5)).off + 2, none⟩ = some (.int .u16 pi) := hcp 2 _ rfl
            have b0 := (hbx.out.2.1.below hBA.out (Nat.le_refl _)).cell 0 rfl
            have e0 := hbB.out.cell 0 rfl
            have e1 := hbB.out.cell 1 rfl
            have e2 := hbB.out.cell 2 rfl
            have e3 := hbB.out.cell 3 rfl
            have e4 := hbB.out.cell 4 rfl
            have w0 : IntKind.i64.wrap ((m : Int) + 1 - 1) = m := by rw [Int.add_sub_cancel]; exact IntWalk.i64_in (m : Int) (by omega)
            have w1' : IntKind.i64.wrap (m : Int) = m := IntWalk.i64_in (m : Int) (by omega)
            have j0 : (0 : Int) ≤ m := by omega
            have j1 : (m : Int) < n := by omega
            have hpos' : (0 : Int) < (m : Int) + 1 := by omega
            have hcmp := Lib.hid (fun u => compare_l pt pk pi at_ ak ai u hidp.out.1 hidp.out.2 hidx.out.1 hidx.out.2)
            obtain ⟨x, hx⟩ : ∃ x, cmpR ⟨pt, pk, pi⟩ ⟨at_, ak, ai⟩ = x := ⟨_, rfl⟩
            rw [hx] at hcmp
            have hxx := Lib.hid hx
            clear hcp hLp honp hx
            by_cases hlt0 : x < 0
            · have hge : ¬ 0 ≤ x := by omega
              go_region_held3 (fun u => u.cell? ⟨w.heap.size, 0, none⟩ = some (.slice (some A) n c) ∧ u.cell? (A.add (m * 5)) = some (.int .i64 pt) ∧ u.cell? ⟨(A.add (m * 5)).block, (A.add (m * 5)).off + 1, none⟩ = some (.bool pk) ∧ u.cell? ⟨(A.add (m * 5)).block, (A.add (m * 5)).off + 2, none⟩ = some (.int .u16 pi) ∧ u.cell? ⟨B, 0, none⟩ = some (.int .i64 at_) ∧ u.cell? ⟨B, 1, none⟩ = some (.bool ak) ∧ u.cell? ⟨B, 2, none⟩ = some (.int .u16 ai) ∧ u.cell? ⟨B, 3, none⟩ = some (.slice hq hn' hc) ∧ u.cell? ⟨B, 4, none⟩ = some (.slice wq wn wc) ∧ Below WA.heap.size WA u)
                (first | exact ⟨b0, p0, p1, p2, e0, e1, e2, e3, e4, below_drew _⟩ | (go_split_ands; exact ⟨by assumption, by assumption, by assumption, by assumption, by assumption, by assumption, by assumption, by assumption, by assumption, by assumption⟩) | exact hkeep2.out | exact hkeep1.out)
                (first
                  | (go_at_call 39; refine (hcm.out _ (by go_split_ands; assumption)).mono ?_; rintro e6 u1 ⟨rfl, hbu⟩; have hkeep1 := Lib.hid (keep10 hbu (by assumption)); clear hbu)
                  | (go_at_call 40; refine (hcmp.out _).mono ?_; rintro e6 u2 ⟨rfl, hbu⟩; have hkeep2 := Lib.hid (keep10 hbu (by assumption)); clear hbu))
              have hS9 : Hid (Below W.heap.size W u2) := below_step (by go_split_ands; assumption) hBA.out
              clear w0 w1'
              go_wp2
              go_roundw
              case rel =>
                refine ⟨m + 1 + 1, by omega, by go_num, hS9.out, hr.out.step hx'.out hqf.out (fun j p hj hp => ?_)⟩
                obtain rfl : j = m := by omega
                rw [hy'.out] at hp; cases hp
                show cmpR _ _ < 0
                rw [hxx.out]; exact hlt0
              case measure => simp [intOf]; omega
            · have hge : 0 ≤ x := by omega
              have hfin : Hid ((180 : Int) = e) := no_e he'.out (fun f => by have h := f.ord m _ _ hy'.out hx'.out; rw [show cmpR _ _ = x from hxx.out] at h; omega)
              go_region_held3 (fun u => u.cell? ⟨w.heap.size, 0, none⟩ = some (.slice (some A) n c) ∧ u.cell? (A.add (m * 5)) = some (.int .i64 pt) ∧ u.cell? ⟨(A.add (m * 5)).block, (A.add (m * 5)).off + 1, none⟩ = some (.bool pk) ∧ u.cell? ⟨(A.add (m * 5)).block, (A.add (m * 5)).off + 2, none⟩ = some (.int .u16 pi) ∧ u.cell? ⟨B, 0, none⟩ = some (.int .i64 at_) ∧ u.cell? ⟨B, 1, none⟩ = some (.bool ak) ∧ u.cell? ⟨B, 2, none⟩ = some (.int .u16 ai) ∧ u.cell? ⟨B, 3, none⟩ = some (.slice hq hn' hc) ∧ u.cell? ⟨B, 4, none⟩ = some (.slice wq wn wc) ∧ Below WA.heap.size WA u)
                (first | exact ⟨b0, p0, p1, p2, e0, e1, e2, e3, e4, below_drew _⟩ | (go_split_ands; exact ⟨by assumption, by assumption, by assumption, by assumption, by assumption, by assumption, by assumption, by assumption, by assumption, by assumption⟩) | exact hkeep2.out | exact hkeep1.out)
                (first
                  | (go_at_call 39; refine (hcm.out _ (by go_split_ands; assumption)).mono ?_; rintro e6 u1 ⟨rfl, hbu⟩; have hkeep1 := Lib.hid (keep10 hbu (by assumption)); clear hbu)
                  | (go_at_call 40; refine (hcmp.out _).mono ?_; rintro e6 u2 ⟨rfl, hbu⟩; have hkeep2 := Lib.hid (keep10 hbu (by assumption)); clear hbu))
              have hS9 : Hid (Below W.heap.size W u2) := below_step (by go_split_ands; assumption) hBA.out
              clear w0 w1'
              go_wp2
              go_ret
              exact ⟨ret_i hfin.out, below_step hS9.out hbx.out.1⟩
      · obtain rfl : n = K := by omega
        have hfin : Hid ((0 : Int) = e) := yes_e he'.out (hr.out.done hll.out hn hnd.out)
        go_wp2
        go_ret
        exact ⟨ret_i hfin.out, below_step hbr.out hbx.out.1⟩
end Go.Proofs.YtbgpppbcffpdbaaGreatDoor
