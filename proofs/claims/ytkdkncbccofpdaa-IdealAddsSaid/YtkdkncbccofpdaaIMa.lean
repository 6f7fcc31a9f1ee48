/- What follows of requests: what comes of a transaction that may be may be; what an error, and what only reads, leaves. -/
import Derived.Test.YtkdkncbccofpdaaISa
namespace Go.Proofs.Ytkdkncbccofpdaa

theorem sub_ok {bs : List BdD} {l m : List RowD} (h : okL bs l = true) (hs : m.Sublist l) : okL bs m = true := by
  rw [okL_good] at h ⊢
  exact ⟨Nat.le_trans hs.length_le h.1, List.Pairwise.sublist hs h.2.1, fun r hr => h.2.2 r (hs.subset hr)⟩
theorem chk_sub {bs : List BdD} {l m : List RowD} (h : chkList bs l = 0) (hs : m.Sublist l) : chkList bs m = 0 := by
  have h1 := chkList_zero h
  exact chk_zero h1.1 (sub_ok h1.2 hs)
/-- rows beside which no error stands may be -/
def OkP (bs : List BdD) (p : Int × List RowD) : Prop := p.1 = 0 → chkList bs p.2 = 0
theorem put_okP (bs : List BdD) (l : List RowD) (r : RowD) : OkP bs (putE bs l r, putR bs l r) := fun h => by
  obtain ⟨T, D, o, h0⟩ := put0_of h
  show chkList bs (putR bs l r) = 0
  rw [h0.res]
  exact chk_zero h0.okS h0.okn
theorem take_okP (bs : List BdD) (l : List RowD) (k : KeyD) : OkP bs (takeE bs l k, takeL bs l k) := fun h => by
  have h : takeE bs l k = 0 := h
  show chkList bs (takeL bs l k) = 0
  have hc : chkList bs l = 0 := by
    unfold takeE at h
    split at h
    · assumption
    · exact h
  refine chk_sub hc ?_
  unfold takeL
  rw [if_pos h, ← List.eraseIdx_eq_take_drop_succ]
  exact List.eraseIdx_sublist _ _
theorem bec_okP (bs : List BdD) (l : List RowD) (k : KeyD) (er : RowD → Int) (nw : RowD → RowD) : OkP bs (becR bs l k er nw) := by
  unfold becR
  cases findK l k with
  | none => intro h; simp at h
  | some i =>
    simp only
    cases l[i]? with
    | none => intro h; simp at h
    | some d =>
      simp only
      split
      · exact put_okP _ _ _
      · rename_i hn
        intro h
        exact absurd h hn
theorem mov_okP (x : SerD) (k to : KeyD) (v : Int) : OkP x.bs (movP x k to v) := by
  unfold movP
  split
  · exact bec_okP _ _ _ _ _
  · exact bec_okP _ _ _ _ _

/-- which transactions may be, spelt out -/
theorem serB_iff {x : SerD} : serB x = true ↔ x.marks.length ≤ 8 ∧ (x.over = true → x.marks.length = 0) ∧ chkList x.bs x.rows = 0 ∧ chkList x.bs x.begun = 0 ∧ ∀ l ∈ x.marks, chkList x.bs l = 0 := by
  unfold serB allL
  simp only [Bool.and_eq_true, Bool.not_eq_true', decide_eq_true_eq, List.all_cons, List.all_eq_true, Bool.and_eq_false_iff, decide_eq_false_iff_not]
  constructor
  · rintro ⟨h1, h2, h3, h4, h5⟩
    refine ⟨h1, fun ho => ?_, h3, h4, h5⟩
    rcases h2 with h2 | h2
    · rw [ho] at h2; cases h2
    · omega
  · rintro ⟨h1, h2, h3, h4, h5⟩
    refine ⟨h1, ?_, h3, h4, h5⟩
    cases ho : x.over with
    | false => exact .inl rfl
    | true => exact .inr (by have := h2 ho; omega)
theorem lay_ser {x : SerD} {p : Int × List RowD} (h : serB x = true) (hp : OkP x.bs p) : serB (layW x p).1 = true := by
  unfold layW
  split
  · rename_i h0
    rw [serB_iff] at h ⊢
    exact ⟨h.1, h.2.1, hp h0, h.2.2.2.1, h.2.2.2.2⟩
  · exact h

/-- what comes of a transaction that may be may be -/
theorem step_ser {x : SerD} {q : ReqD} (h : serB x = true) : x.over = false → serB (stepW x q).1 = true := by
  intro ho
  have h0 := serB_iff.1 h
  unfold stepW
  split
  · unfold readW; cases findK x.rows q.key with
    | none => exact h
    | some i => simp only; cases x.rows[i]? <;> exact h
  split
  · exact h
  split
  · unfold insW
    split
    · split
      · exact h
      · exact lay_ser h (put_okP _ _ _)
    · exact h
  split
  · exact lay_ser h (take_okP _ _ _)
  split
  · exact lay_ser h (bec_okP _ _ _ _ _)
  split
  · unfold setW
    split
    · exact lay_ser h (bec_okP _ _ _ _ _)
    · exact h
  split
  · exact lay_ser h (bec_okP _ _ _ _ _)
  split
  · unfold movW
    split
    · exact lay_ser h (mov_okP _ _ _ _)
    · exact h
  split
  · unfold marW
    split
    · exact h
    · rename_i hn
      rw [serB_iff]
      refine ⟨by simp only [List.length_append, List.length_singleton]; omega, fun (hh : x.over = true) => absurd hh (by rw [ho]; simp), h0.2.2.1, h0.2.2.2.1, fun l hl => ?_⟩
      rcases List.mem_append.1 hl with hl | hl
      · exact h0.2.2.2.2 l hl
      · rw [List.mem_singleton.1 hl]; exact h0.2.2.1
  split
  · unfold bakW
    split
    · rename_i hk
      rw [serB_iff]
      refine ⟨by simp only [List.length_take]; omega, fun (hh : x.over = true) => absurd hh (by rw [ho]; simp), ?_, h0.2.2.2.1, fun l hl => h0.2.2.2.2 l (List.mem_of_mem_take hl)⟩
      rw [List.getElem?_eq_getElem hk]
      exact h0.2.2.2.2 _ (List.getElem_mem hk)
    · exact h
  split
  · unfold comW
    rw [serB_iff]
    exact ⟨Nat.zero_le _, fun _ => rfl, h0.2.2.1, h0.2.2.2.1, fun l hl => by cases hl⟩
  · unfold aboW
    rw [serB_iff]
    exact ⟨Nat.zero_le _, fun _ => rfl, h0.2.2.2.1, h0.2.2.2.1, fun l hl => by cases hl⟩

theorem lay_fix (x : SerD) (p : Int × List RowD) : (layW x p).1.bs = x.bs ∧ (layW x p).1.begun = x.begun ∧ (layW x p).1.marks = x.marks ∧ (layW x p).1.over = x.over := by
  unfold layW
  split <;> exact ⟨rfl, rfl, rfl, rfl⟩
theorem lay_err2 (x : SerD) (p : Int × List RowD) : (layW x p).2.e ≠ 0 → layW x p = (x, errA (layW x p).2.e) := by
  unfold layW
  split
  · intro h; exact absurd rfl h
  · intro _; rfl
/-- an error changes nothing, and nothing stands beside it -/
theorem step_err {x : SerD} {q : ReqD} : (stepW x q).2.e ≠ 0 → stepW x q = (x, errA (stepW x q).2.e) := by
  unfold stepW
  split
  · unfold readW; cases findK x.rows q.key with
    | none => intro _; rfl
    | some i =>
      simp only
      cases x.rows[i]? with
      | none => intro _; rfl
      | some r => intro h; exact absurd rfl h
  split
  · intro h; exact absurd rfl h
  split
  · unfold insW
    split
    · split
      · intro _; rfl
      · exact lay_err2 _ _
    · intro _; rfl
  split
  · exact lay_err2 _ _
  split
  · exact lay_err2 _ _
  split
  · unfold setW
    split
    · exact lay_err2 _ _
    · intro _; rfl
  split
  · exact lay_err2 _ _
  split
  · unfold movW
    split
    · exact lay_err2 _ _
    · intro _; rfl
  split
  · unfold marW
    split
    · intro _; rfl
    · intro h; exact absurd rfl h
  split
  · unfold bakW
    split
    · intro h; exact absurd rfl h
    · intro _; rfl
  split
  · intro h; exact absurd rfl h
  · intro h; exact absurd rfl h
theorem step_reads {x : SerD} {q : ReqD} (h : q.k = 1 ∨ q.k = 2) : (stepW x q).1 = x := by
  unfold stepW
  split
  · unfold readW; cases findK x.rows q.key with
    | none => rfl
    | some i => simp only; cases x.rows[i]? <;> rfl
  · rw [if_pos (by omega)]
theorem step_scan {x : SerD} {q : ReqD} (h : q.k = 2) : stepW x q = (x, ⟨0, ofL x.rows q.key.t, 0⟩) := by
  unfold stepW
  rw [if_neg (by omega), if_pos h]
theorem of_sub (l : List RowD) (t : Int) : (ofL l t).Sublist l := by
  unfold ofL
  exact List.filter_sublist
/-- the schema, and the rows that it began with, stay -/
theorem step_fix (x : SerD) (q : ReqD) : (stepW x q).1.bs = x.bs ∧ (stepW x q).1.begun = x.begun := by
  have hl : ∀ p, (layW x p).1.bs = x.bs ∧ (layW x p).1.begun = x.begun := fun p => ⟨(lay_fix x p).1, (lay_fix x p).2.1⟩
  unfold stepW
  split
  · unfold readW; cases findK x.rows q.key with
    | none => exact ⟨rfl, rfl⟩
    | some i => simp only; cases x.rows[i]? <;> exact ⟨rfl, rfl⟩
  split
  · exact ⟨rfl, rfl⟩
  split
  · unfold insW
    split
    · split
      · exact ⟨rfl, rfl⟩
      · exact hl _
    · exact ⟨rfl, rfl⟩
  split
  · exact hl _
  split
  · exact hl _
  split
  · unfold setW
    split
    · exact hl _
    · exact ⟨rfl, rfl⟩
  split
  · exact hl _
  split
  · unfold movW
    split
    · exact hl _
    · exact ⟨rfl, rfl⟩
  split
  · unfold marW; split <;> exact ⟨rfl, rfl⟩
  split
  · unfold bakW; split <;> exact ⟨rfl, rfl⟩
  split
  · exact ⟨rfl, rfl⟩
  · exact ⟨rfl, rfl⟩
/-- what does not end it, and does not go back behind a savepoint, leaves that savepoint and those ahead of it -/
theorem step_marks {x : SerD} {q : ReqD} {m : Nat} (hm : m ≤ x.marks.length) (hk : 1 ≤ q.k ∧ q.k < 11) (hb : q.k = 10 → (m : Int) ≤ q.n) :
    m ≤ (stepW x q).1.marks.length ∧ (stepW x q).1.marks.take m = x.marks.take m ∧ (stepW x q).1.over = x.over := by
  have hs : m ≤ x.marks.length ∧ x.marks.take m = x.marks.take m ∧ x.over = x.over := ⟨hm, rfl, rfl⟩
  have hl : ∀ p, m ≤ (layW x p).1.marks.length ∧ (layW x p).1.marks.take m = x.marks.take m ∧ (layW x p).1.over = x.over := fun p => by
    have h := lay_fix x p
    rw [h.2.2.1, h.2.2.2]
    exact hs
  unfold stepW
  split
  · unfold readW; cases findK x.rows q.key with
    | none => exact hs
    | some i => simp only; cases x.rows[i]? <;> exact hs
  split
  · exact hs
  split
  · unfold insW
    split
    · split
      · exact hs
      · exact hl _
    · exact hs
  split
  · exact hl _
  split
  · exact hl _
  split
  · unfold setW
    split
    · exact hl _
    · exact hs
  split
  · exact hl _
  split
  · unfold movW
    split
    · exact hl _
    · exact hs
  split
  · unfold marW
    split
    · exact hs
    · exact ⟨by simp only [List.length_append]; omega, by show List.take m (x.marks ++ [x.rows]) = _; rw [List.take_append_of_le_length hm], rfl⟩
  split
  · rename_i h10
    unfold bakW
    split
    · have h1 := hb h10
      exact ⟨by simp only [List.length_take]; omega, by show List.take m (x.marks.take _) = _; rw [List.take_take, Nat.min_eq_left (by omega)], rfl⟩
    · exact hs
  split
  · omega
  · omega
end Go.Proofs.Ytkdkncbccofpdaa
