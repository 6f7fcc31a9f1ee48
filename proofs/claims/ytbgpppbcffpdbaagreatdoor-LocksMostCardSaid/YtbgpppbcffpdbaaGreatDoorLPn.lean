/- pump of locks: the walk. -/
import Derived.Test.YtbgpppbcffpdbaaGreatDoorLPm
import Derived.Test.YtbgpppbcffpdbaaGreatDoorLGc
namespace Go.Proofs.YtbgpppbcffpdbaaGreatDoor
open Go.RowKit Go.Maps

def slLen : Value → Nat
  | .slice _ n _ => n
  | _ => 0

theorem run_tailW (u : World) (A : Addr) (n c : Nat) (hn : 1 ≤ n) : (Instr.sliceAt 41 (.slice (some A) n c) (some (.int .i64 1)) none none).run Tryz.prog u = .ok (.slice (some (nxA WaitD c A)) (n - 1) (c - 1)) u := by
  have hz : (sizeOf (Tryz.prog.elem 41)).run Tryz.prog u = .ok 3 u := by kernel_rfl
  have ht : Tryz.prog.underlying 41 = some (.slice (Tryz.prog.elem 41)) := by kernel_rfl
  rw [run_sliceAt_slice u _ _ _ _ _ ht, run_slice_l u _ _ _ _ ht .i64 1 (by omega) (by omega), hz]
  simp only [Result.andThen_ok, sliced, Option.map_some]
  have e : (1 : Int).toNat = 1 := rfl
  rw [e]
  unfold nxA
  by_cases h : c = 1
  · rw [if_pos h, if_pos h]
  · rw [if_neg h, if_neg h]; rfl
theorem wpList_tailW {ops : Array Oper} {rest : List Oper} {o : Oper} {a : Act} {Q : Exit → Act → World → Prop} {w : World} (hgd : o.guard = none) (x : Operand) (ho : o.op = .slice 41 x (some (.const (.int .i64 1))) none none) {A : Addr} {n c : Nat} (hx : a.eval x = .slice (some A) n c) (hn : 1 ≤ n)
    (h : wpList Tryz.prog ops Q rest (a.put o.dst (.slice (some (nxA WaitD c A)) (n - 1) (c - 1))) w) : wpList Tryz.prog ops Q (o :: rest) a w := by
  refine wpList_plain hgd fun K hK => ?_
  have hlo : a.eval (.const (.int .i64 1)) = .int .i64 1 := rfl
  unfold Oper.wp execOp
  simp only [ho, hx, hlo, Option.map_some, Option.map_none, run_tailW w A n c hn, Sem.run_bind, Sem.run_pure, Result.andThen_ok]
  exact hK _ _ h

/-- how far a queue is pumped -/
structure PmS (lo G n c i : Nat) (V : List QV) (v : QV) (hs : List HoldD) (ws : List WaitD) (w : World) (k : Nat) (gq : Option Addr) (gc : Nat) (vk : QV) (hk : List HoldD) (wr : World) : Prop where
  kn : k ≤ ws.length
  res : vk.res = v.res
  own : OwnS 3 wr w.heap.size (.slice gq k gc) ((ws.take k).map (·.x))
  row : OwnS 43 wr lo (.slice (some ⟨G, 0, none⟩) n c) (V.set i vk)
  oh : OwnS 45 wr lo (.slice vk.hq vk.hn vk.hc) hk
  ow : OwnO 47 wr lo vk.wq vk.wn vk.wc (ws.drop k)
  blk : ∀ b ∈ hbs vk, b ∈ hbs v ∨ w.heap.size ≤ b
  ap : (hbs vk).Nodup
  ng : G ∉ hbs vk
  gap : ∀ a, gq = some a → a.block ∉ hbs vk
  fr : Fr (fun j => j = G ∨ j ∈ hbs v) w wr
  so : SortH hk
  sm : hk.length ≤ hs.length + k
  eq : pumpH hs ws = ((pumpH hk (ws.drop k)).1, (pumpH hk (ws.drop k)).2.1, (ws.take k).map (·.x) ++ (pumpH hk (ws.drop k)).2.2)

/-- what pump leaves -/
def PmPost (lo G n c i : Nat) (V : List QV) (v : QV) (hs : List HoldD) (ws : List WaitD) (w : World) (e : Ending) (w' : World) : Prop :=
  ∃ vk gq gn gc, e = .returned (.slice gq gn gc) ∧ vk.res = v.res ∧ OwnS 3 w' w.heap.size (.slice gq gn gc) (pumpH hs ws).2.2 ∧ OwnS 43 w' lo (.slice (some ⟨G, 0, none⟩) n c) (V.set i vk) ∧ OwnS 45 w' lo (.slice vk.hq vk.hn vk.hc) (pumpH hs ws).1 ∧ OwnO 47 w' lo vk.wq vk.wn vk.wc (pumpH hs ws).2.1 ∧
    (∀ b ∈ hbs vk, b ∈ hbs v ∨ w.heap.size ≤ b) ∧ (hbs vk).Nodup ∧ G ∉ hbs vk ∧ Fr (fun j => j = G ∨ j ∈ hbs v) w w'
theorem PmS.stop {lo G n c i k gc : Nat} {V : List QV} {v vk : QV} {hs hk : List HoldD} {ws : List WaitD} {w wr : World} {gq : Option Addr} (h : PmS lo G n c i V v hs ws w k gq gc vk hk wr) (hst : ∀ a, ws[k]? = some a → goesW hk a = false) {w' : World} (hb : Below wr.heap.size wr w') : PmPost lo G n c i V v hs ws w (.returned (.slice gq k gc)) w' := by
  have hp : pumpH hk (ws.drop k) = (hk, ws.drop k, []) := by
    cases hd : ws.drop k with
    | nil => rfl
    | cons a l =>
      have : ws[k]? = some a := by have h1 : (ws.drop k)[0]? = some a := by rw [hd]; rfl
                                   rw [List.getElem?_drop, Nat.add_zero] at h1; exact h1
      unfold pumpH
      rw [if_pos (hst a this)]
  have he := h.eq
  simp only [hp, List.append_nil] at he
  have hf : Fr (fun _ => False) wr w' := Fr.of_below hb
  unfold PmPost
  rw [show pumpH hs ws = (hk, ws.drop k, (ws.take k).map (·.x)) from he]
  refine ⟨vk, gq, k, gc, rfl, h.res, ?_, h.row.below hb, h.oh.below hb, h.ow.fr hf (fun _ _ e => e), h.blk, h.ap, h.ng, h.fr.then hf (fun _ _ e => e.elim)⟩
  exact h.own.below hb

theorem hbs_mk {r : ResD} {hq wq : Option Addr} {hn hc wn wc : Nat} : hbs ⟨r, hq, hn, hc, wq, wn, wc⟩ = (hq.map (·.block)).toList ++ (wq.map (·.block)).toList := rfl
section
variable {lo G n c i k gc : Nat} {V : List QV} {v : QV} {hs hk : List HoldD} {ws : List WaitD} {w wo wp X1 : World} {gq : Option Addr} {r : ResD} {hq : Option Addr} {hn hc wn wc : Nat} {AW : Addr}
theorem PmS.facts (h : PmS lo G n c i V v hs ws w k gq gc ⟨r, hq, hn, hc, some AW, wn, wc⟩ hk wo) (hGw : G < w.heap.size) :
    (∀ a, hq = some a → a.block ≠ G ∧ a.block < wo.heap.size ∧ a.block ≠ AW.block) ∧ AW.block ≠ G ∧ AW.block < wo.heap.size ∧ (∀ a, gq = some a → a.block ≠ G ∧ a.block < wo.heap.size ∧ a.block ≠ AW.block ∧ w.heap.size ≤ a.block ∧ ∀ b, hq = some b → a.block ≠ b.block) ∧ w.heap.size ≤ wo.heap.size := by
  have hap := h.ap
  have hng := h.ng
  have hgap := h.gap
  rw [hbs_mk] at hap hng hgap
  have hgo := h.own.far
  refine ⟨fun a ha => ?_, ?_, (h.ow.far _ rfl).2, fun a ha => ?_, h.fr.size⟩
  · subst ha
    refine ⟨fun e => hng (by simp [e]), (h.oh.far _ rfl).2, fun e => ?_⟩
    simp at hap
    exact hap e
  · exact fun e => hng (by simp [e])
  · have h1 := hgap a ha
    have h2 := hgo a ha
    refine ⟨by omega, h2.2, fun e => h1 (by simp [e]), h2.1, fun b hb e => h1 (by simp [hb, e])⟩
theorem PmS.atX (h : PmS lo G n c i V v hs ws w k gq gc ⟨r, hq, hn, hc, some AW, wn, wc⟩ hk wo) (hGw : G < w.heap.size) (hBo : Below wo.heap.size wo wp) (hgX : wp.grownBy X1 (some G)) : OwnS 45 X1 lo (.slice hq hn hc) hk ∧ OwnS 3 X1 w.heap.size (.slice gq k gc) ((ws.take k).map (·.x)) := by
  obtain ⟨f1, f2, f3, f4, f5⟩ := h.facts hGw
  exact ⟨(h.oh.below hBo).kept (fun a ha => hgX.block _ (by have := (f1 a ha).2.1; have := hBo.size; omega) (fun e => (f1 a ha).1 (by simpa using e))), (h.own.below hBo).kept (fun a ha => hgX.block _ (by have := (f4 a ha).2.1; have := hBo.size; omega) (fun e => (f4 a ha).1 (by simpa using e)))⟩
theorem PmS.step {w4 W6 w6 : World} {ax am ah : Int} {q' gq' : Option Addr} {m' c' gc' : Nat} (h : PmS lo G n c i V v hs ws w k gq gc ⟨r, hq, hn, hc, some AW, wn, wc⟩ hk wo) (hGw : G < w.heap.size) (hBo : Below wo.heap.size wo wp) (hgX : wp.grownBy X1 (some G))
    (hak : ws[k]? = some ⟨ax, am, ah⟩) (hgo : goesW hk ⟨ax, am, ah⟩ = true)
    (row4 : OwnS 43 w4 lo (.slice (some ⟨G, 0, none⟩) n c) (V.set i ⟨r, q', m', c', some (nxA WaitD wc AW), wn - 1, wc - 1⟩)) (oh4 : OwnS 45 w4 lo (.slice q' m' c') (grantH hk ⟨ax, am⟩)) (na : NewAt hq q' X1.heap.size) (fr4 : Fr (InQ G hq) X1 w4)
    (hb6 : Below w4.heap.size w4 W6) (own6 : OwnS 3 w6 w.heap.size (.slice gq' (k + 1) gc') ((ws.take k).map (·.x) ++ [ax])) (hg6 : W6.grownBy w6 (gq.map (·.block))) (hgq : gq'.map (·.block) = gq.map (·.block) ∨ gq'.map (·.block) = some W6.heap.size) :
    PmS lo G n c i V v hs ws w (k + 1) gq' gc' ⟨r, q', m', c', some (nxA WaitD wc AW), wn - 1, wc - 1⟩ (grantH hk ⟨ax, am⟩) w6 := by
  obtain ⟨f1, f2, f3, f4, f5⟩ := h.facts hGw
  have hkl := (List.getElem?_eq_some_iff.1 hak).1
  have hdrop : ws.drop k = ⟨ax, am, ah⟩ :: ws.drop (k + 1) := by
    rw [List.drop_eq_getElem_cons hkl, (List.getElem?_eq_some_iff.1 hak).2]
  have z1 := hBo.size
  have z2 := hgX.size
  have z3 := fr4.size
  have z4 := hb6.size
  have q1 : ∀ a, q' = some a → (∃ b, hq = some b ∧ a.block = b.block) ∨ X1.heap.size ≤ a.block := na
  have q2 : ∀ a, q' = some a → a.block ≠ G ∧ a.block ≠ AW.block ∧ a.block < w4.heap.size ∧ ∀ b, gq = some b → b.block ≠ a.block := fun a ha => by
    have h4 := (oh4.far a ha).2
    rcases q1 a ha with ⟨b, h1, h2⟩ | h1
    · have h3 := f1 b h1
      exact ⟨by rw [h2]; exact h3.1, by rw [h2]; exact h3.2.2, h4, fun b' hb' => by rw [h2]; exact (f4 b' hb').2.2.2.2 b h1⟩
    · exact ⟨by omega, by omega, h4, fun b' hb' => by have := (f4 b' hb').2.1; omega⟩
  have hgm : ∀ a, q' = some a → ¬ some a.block = gq.map (·.block) := fun a ha e => by
    cases gq with
    | none => cases e
    | some b => exact (q2 a ha).2.2.2 b rfl (by simpa using e.symm)
  have hfX : Fr (fun j => j = G) wo X1 := (Fr.of_below hBo).trans (Fr.of_grown hgX (fun j e => by cases e; rfl))
  have hf6 : Fr (fun j => some j = gq.map (·.block)) w4 w6 := (Fr.of_below hb6).trans (Fr.of_grown hg6 (fun j e => e.symm))
  have hwb : (nxA WaitD wc AW).block = AW.block := nxA_block wc AW
  have how := h.ow
  rw [hdrop] at how
  have hpe := h.eq
  have hpu : pumpH hk (ws.drop k) = ((pumpH (grantH hk ⟨ax, am⟩) (ws.drop (k + 1))).1, (pumpH (grantH hk ⟨ax, am⟩) (ws.drop (k + 1))).2.1, ax :: (pumpH (grantH hk ⟨ax, am⟩) (ws.drop (k + 1))).2.2) := by
    rw [hdrop]
    conv => lhs; unfold pumpH
    rw [if_neg (by rw [hgo]; decide)]
  have htk : (ws.take (k + 1)).map (·.x) = (ws.take k).map (·.x) ++ [ax] := by
    rw [List.take_add_one, hak, List.map_append]; rfl
  refine ⟨hkl, h.res, by rw [htk]; exact own6, ?_, ?_, ?_, ?_, ?_, ?_, ?_, ?_, grant_sort h.so _, ?_, ?_⟩
  · exact row4.fr hf6 (fun a ha e => by
      cases ha
      cases gq with
      | none => cases e
      | some b => exact (f4 b rfl).1 (by simpa using e.symm))
  · exact oh4.fr hf6 (fun a ha e => hgm a ha e)
  · refine ((how.tail.fr hfX (fun a ha e => ?_)).fr fr4 (fun a ha e => ?_)).fr hf6 (fun a ha e => ?_)
    · cases ha; rw [hwb] at e; exact f2 e
    · cases ha
      rw [hwb] at e
      rcases e with e | ⟨b, hb, e⟩
      · exact f2 e
      · exact (f1 b hb).2.2 e.symm
    · cases ha
      rw [hwb] at e
      cases gq with
      | none => cases e
      | some b => exact (f4 b rfl).2.2.1 (by simpa using e.symm)
  · intro b hb
    rw [hbs_mk] at hb
    rcases List.mem_append.1 hb with hb | hb
    · cases hq' : q' with
      | none => rw [hq'] at hb; simp at hb
      | some a =>
        rw [hq'] at hb
        have e : b = a.block := by simpa using hb
        rcases q1 a hq' with ⟨b', h1, h2⟩ | h1
        · exact h.blk b (by rw [hbs_mk, h1, e, h2]; simp)
        · exact .inr (by omega)
    · have e : b = AW.block := by rw [← hwb]; simpa using hb
      exact h.blk b (by rw [hbs_mk, e]; simp)
  · rw [hbs_mk]
    cases hq' : q' with
    | none => simp
    | some a =>
      have h1 := (q2 a hq').2.1
      simp
      rw [hwb]; exact h1
  · intro hm
    rw [hbs_mk] at hm
    rcases List.mem_append.1 hm with hb | hb
    · cases hq' : q' with
      | none => rw [hq'] at hb; simp at hb
      | some a =>
        rw [hq'] at hb
        have e : G = a.block := by simpa using hb
        exact (q2 a hq').1 e.symm
    · have e : G = (nxA WaitD wc AW).block := by simpa using hb
      exact f2 (by rw [← hwb]; exact e.symm)
  · intro a ha hm
    rw [hbs_mk] at hm
    rw [ha] at hgq
    have hcase : (∃ b, gq = some b ∧ a.block = b.block) ∨ a.block = W6.heap.size := by
      rcases hgq with e | e
      · cases gq with
        | none => cases e
        | some b => exact .inl ⟨b, rfl, by simpa using e⟩
      · exact .inr (by simpa using e)
    rcases List.mem_append.1 hm with hb | hb
    · cases hq' : q' with
      | none => rw [hq'] at hb; simp at hb
      | some a' =>
        rw [hq'] at hb
        have e : a.block = a'.block := by simpa using hb
        rcases hcase with ⟨b, h1, h2⟩ | h1
        · exact (q2 a' hq').2.2.2 b h1 (by rw [← h2]; exact e)
        · have := (q2 a' hq').2.2.1; omega
    · have e : a.block = AW.block := by rw [← hwb]; simpa using hb
      rcases hcase with ⟨b, h1, h2⟩ | h1
      · exact (f4 b h1).2.2.1 (by rw [← h2]; exact e)
      · omega
  · refine ((h.fr.then hfX (fun j _ e => .inl e)).then fr4 (fun j hj e => ?_)).then hf6 (fun j hj e => ?_)
    · rcases e with e | ⟨b, hb, e⟩
      · exact .inl e
      · rcases h.blk j (by rw [hbs_mk, hb, e]; simp) with h7 | h7
        · exact .inr h7
        · omega
    · cases gq with
      | none => cases e
      | some b =>
        have e2 : j = b.block := by simpa using e
        have := (f4 b rfl).2.2.2.1
        omega
  · have h1 := grant_len hk ⟨ax, am⟩
    have h2 := h.sm
    omega
  · rw [hpe, hpu, htk]
    simp
end

set_option maxRecDepth 100000 in
set_option maxHeartbeats 2000000 in
theorem pump_any (lo G n c i o : Nat) (ho : o = i * 5) (V : List QV) (v : QV) (hs : List HoldD) (ws : List WaitD) (w w0 : World) (hG : LaidG w0) (hw0 : w0.heap.size ≤ lo) (hww : Below w0.heap.size w0 w) (hlo : lo ≤ w.heap.size) (hrow : OwnS 43 w lo (.slice (some ⟨G, 0, none⟩) n c) V) (hv : V[i]? = some v)
    (hH : OwnS 45 w lo (.slice v.hq v.hn v.hc) hs) (hW : OwnO 47 w lo v.wq v.wn v.wc ws) (hap : (hbs v).Nodup) (hng : G ∉ hbs v) (hso : SortH hs) (hsm : hs.length + ws.length ≤ 300000) :
    Calls Tryz.prog 99 #[.pointer (some ⟨G, o, none⟩)] w (PmPost lo G n c i V v hs ws w) := by
  have hi := (List.getElem?_eq_some_iff.1 hv).1
  have hst : Hid (PmS lo G n c i V v hs ws w 0 none 0 v hs w) := ⟨Nat.zero_le _, rfl, OwnS.nil _ _ _, by rw [set_self hv]; exact hrow, hH, hW, fun b hb => .inl hb, hap, hng, fun a ha => (by cases ha), Fr.refl _ _, hso, Nat.le_refl _, by simp⟩
  have hin : Hid (∀ u, Fr (fun j => j = G ∨ j ∈ hbs v) w u → LaidG u) := fun u hf => by
    have hb : Below w0.heap.size w0 u := hww.trans (hf.below (Nat.le_trans hw0 hlo) (fun j hj => by
      rcases hj with hj | hj
      · have h1 : lo ≤ G := (hrow.far _ rfl).1
        omega
      · rcases hbs_or hj with ⟨a, ha, hj⟩ | ⟨a, ha, hj⟩
        · have := (hH.far a ha).1; omega
        · have := (hW.far a ha).1; omega))
    exact hG.below hb
  have hfarG : Hid (lo ≤ G ∧ G < w.heap.size) := hrow.far _ rfl
  have hfarB : Hid (∀ b ∈ hbs v, b < w.heap.size) := fun b hb => by
    rcases hbs_or hb with ⟨a, ha, hj⟩ | ⟨a, ha, hj⟩
    · have := (hH.far a ha).2; omega
    · have := (hW.far a ha).2; omega
  have hsm' := Lib.hid hsm
  have hi' : Hid (i < V.length) := hi
  have hlo' := Lib.hid hlo
  subst ho
  clear hG hw0 hww hlo hrow hv hH hW hap hng hso hsm hi
  go_enter Tryz.func99, Tryz.ntmps99
  go_wp2
  refine wp_scope_straight ?_
  go_wp2
  refine wp_label ?_
  go_wp2
  go_loopw [3] (fun v3 wr => ∃ (k : Nat) (gq : Option Addr) (gc : Nat) (vk : QV) (hk : List HoldD), v3 = .slice gq k gc ∧ Hid (PmS lo G n c i V v hs ws w k gq gc vk hk wr)) (fun v3 _ => ws.length - slLen v3)
  case atStart => exact ⟨0, none, 0, v, hs, rfl, hst⟩
  case round =>
    obtain ⟨k, gq, gc, vk, hk, rfl, hr⟩ := hrel
    obtain ⟨wo, rfl⟩ : ∃ x, x = wr := ⟨_, rfl⟩
    obtain ⟨⟨t, kk, id⟩, hq, hn, hc, wq, wn, wc⟩ := vk
    have hwl := hr.out.ow.1
    replace hwl : (ws.drop k).length = wn := hwl
    rw [List.length_drop] at hwl
    have hkn := hr.out.kn
    have hvk : (V.set i ⟨⟨t, kk, id⟩, hq, hn, hc, wq, wn, wc⟩)[i]? = some ⟨⟨t, kk, id⟩, hq, hn, hc, wq, wn, wc⟩ := by rw [List.getElem?_set, if_pos rfl, if_pos hi'.out]
    have hvk' := Lib.hid hvk
    have c3 : wo.cell? ⟨G, i * 5 + 3, none⟩ = some (.slice hq hn hc) := row_cell hr.out.row hvk 3 rfl
    have c4 : wo.cell? ⟨G, i * 5 + 4, none⟩ = some (.slice wq wn wc) := row_cell hr.out.row hvk 4 rfl
    clear hvk
    by_cases hlt : k < ws.length
    · obtain ⟨⟨ax, am, ah⟩, hak⟩ : ∃ a, ws[k]? = some a := ⟨_, List.getElem?_eq_getElem hlt⟩
      have hdrop : ws.drop k = ⟨ax, am, ah⟩ :: ws.drop (k + 1) := by
        rw [List.drop_eq_getElem_cons hlt, (List.getElem?_eq_some_iff.1 hak).2]
      have hwn : 0 < wn := by omega
      have hwsO := hr.out.ow
      rw [hdrop] at hwsO
      obtain ⟨AW, a', hqW, ha', hcW⟩ := hwsO.reads.at (i := 0) (by show 0 < wn; exact hwn)
      simp only [List.getElem?_cons_zero, Option.some.injEq] at ha'
      subst ha'
      replace hqW : wq = some AW := hqW
      subst hqW
      have hcell : Hid (∀ j v, ([.int .i64 ax, .int .i64 am, .int .i64 ah] : List Value)[j]? = some v → wo.cell? (AW.add j) = some v) := fun j y hj => by
        have h := hcW j y hj
        rw [Nat.zero_mul, add0] at h
        exact h
      have hs3 := sizeWait (.int .i64 ax) (.int .i64 am) (.int .i64 ah)
      obtain ⟨W1, hW1⟩ : ∃ W', wo.alloc (.cells #[.int .i64 ax, .int .i64 am, .int .i64 ah] 47) = W' := ⟨_, rfl⟩
      have hb1 := Lib.hid (one_box (xs := [.int .i64 ax, .int .i64 am, .int .i64 ah]) hW1)
      have c3' : W1.cell? ⟨G, i * 5 + 3, none⟩ = some (.slice hq hn hc) := cell_kept hb1.out.1 (Nat.le_refl _) c3
      have hwO := Lib.hid hwsO
      have hak' := Lib.hid hak
      have hlt' := Lib.hid hlt
      have hdr' := Lib.hid hdrop
      have hkl : Hid (hk.length = hn) := hr.out.oh.len.symm
      have hhn : Hid (hn ≤ 1000000) := by show _ ≤ _; have h1 := hr.out.sm; have h2 := hsm'.out; have h3 := hkl.out; omega
      have hwn' := Lib.hid hwn
      have hwl' := Lib.hid hwl
      have hpos : (0 : Int) < wn := by omega
      clear hcW hwsO hak hdrop hlt hkn c3 hwl
      go_wp2_with (first
        | (with_reducible refine wpList_load_at rfl 47 (.tmp 17) rfl Tryz.underlying47 rfl hs3 rfl hcell.out ?_))
      clear hW1 c3' c4 hcell
      go_loopw [24] (fun v24 wr2 => ∃ j : Nat, j ≤ hn ∧ v24 = .int .i64 j ∧ Hid (Below W1.heap.size W1 wr2 ∧ ∀ (m : Nat) h, m < j → hk[m]? = some h → hindB h ⟨ax, am, ah⟩ = false)) (fun v24 _ => hn - (intOf v24).toNat)
      case atStart => exact ⟨0, Nat.zero_le _, rfl, Below.refl _ _, fun m h hm => absurd hm (Nat.not_lt_zero _)⟩
      case round =>
        obtain ⟨j, hj, rfl, hr2⟩ := hrel
        obtain ⟨wp, rfl⟩ : ∃ x, x = wr := ⟨_, rfl⟩
        have hBo := Lib.hid (below_step hr2.out.1 hb1.out.1)
        by_cases hjn : j < hn
        · obtain ⟨AH, ⟨hx, hm⟩, hqA, hhj, hcA⟩ := (hr.out.oh.reads.below hBo.out (Nat.le_refl _)).at (i := j) (by show j < hn; exact hjn)
          replace hqA : hq = some AH := hqA
          subst hqA
          have hcell : Hid (∀ j' v, ([.int .i64 hx, .int .i64 hm] : List Value)[j']? = some v → wp.cell? ((AH.add (j * 2)).add j') = some v) := hcA
          have hs2 := sizeHold (.int .i64 hx) (.int .i64 hm)
          have i0 : (0 : Int) ≤ j := by omega
          have i1 : (j : Int) < hn := by omega
          have i2 : (j : Int) ≤ 1000000 := by have := hhn.out; omega
          obtain ⟨W2, hW2⟩ : ∃ W', wp.alloc (.cells #[.int .i64 hx, .int .i64 hm] 45) = W' := ⟨_, rfl⟩
          have hb2 := Lib.hid (one_box (xs := [.int .i64 hx, .int .i64 hm]) hW2)
          have hB2 := Lib.hid (below_step hb2.out.1 hr2.out.1)
          have hbf := Lib.hid (hb1.out.2.1.below hB2.out (Nat.le_refl _))
          obtain ⟨hb, hhb⟩ : ∃ hb, hindB ⟨hx, hm⟩ ⟨ax, am, ah⟩ = hb := ⟨_, rfl⟩
          have hLu : Hid (LaidG W2) := hin.out _ (hr.out.fr.then (Fr.of_below (S := fun _ => False) (below_step hB2.out hb1.out.1)) (fun _ _ e => e.elim))
          have hcall := Lib.hid (hinders_any hx hm ax am ah W2 hLu.out)
          rw [hhb] at hcall
          have hhb' := Lib.hid hhb
          have hhj' := Lib.hid hhj
          clear hhb hcA hhj
          cases hb with
          | true =>
            go_wp2_with (first
              | (with_reducible refine wpList_load_at rfl 45 (.tmp 26) rfl Tryz.underlying45 rfl hs2 rfl hcell.out ?_)
              | (with_reducible refine wpList_load_at rfl 45 (.tmp 6) rfl Tryz.underlying45 rfl hs2 rfl hb2.out.2.1.all ?_)
              | (with_reducible refine wpList_load_at rfl 47 (.tmp 4) rfl Tryz.underlying47 rfl hs3 rfl hbf.out.all ?_)
              | (go_at_call 48; refine hcall.out.mono ?_; rintro e3 w3 ⟨rfl, hb3⟩; have hB3 := Lib.hid (below_step hb3 (below_step hB2.out hb1.out.1)); clear hb3 hW2))
            try rw [Exit.noGoto_ret]
            go_ret
            exact hr.out.stop (fun a ha => by
              rw [hak'.out] at ha
              cases ha
              unfold goesW
              rw [List.any_eq_true.2 ⟨_, List.mem_of_getElem? hhj'.out, hhb'.out⟩]; rfl) hB3.out
          | false =>
            go_wp2_with (first
              | (with_reducible refine wpList_load_at rfl 45 (.tmp 26) rfl Tryz.underlying45 rfl hs2 rfl hcell.out ?_)
              | (with_reducible refine wpList_load_at rfl 45 (.tmp 6) rfl Tryz.underlying45 rfl hs2 rfl hb2.out.2.1.all ?_)
              | (with_reducible refine wpList_load_at rfl 47 (.tmp 4) rfl Tryz.underlying47 rfl hs3 rfl hbf.out.all ?_)
              | (go_at_call 48; refine hcall.out.mono ?_; rintro e3 w3 ⟨rfl, hb3⟩; have hB3 := Lib.hid (below_step hb3 hB2.out); clear hb3 hW2))
            go_roundw
            case rel => exact ⟨j + 1, by omega, by go_num, hB3.out, fun m h hm hx => by
              rcases Nat.lt_or_ge m j with h1 | h1
              · exact hr2.out.2 m h h1 hx
              · obtain rfl : m = j := by omega
                rw [hhj'.out] at hx; cases hx; exact hhb'.out⟩
            case measure => simp [intOf]; omega
        · obtain rfl : hn = j := by omega
          have hgo : Hid (goesW hk ⟨ax, am, ah⟩ = true) := by
            show _ = _
            unfold goesW
            cases h : hk.any (fun h => hindB h ⟨ax, am, ah⟩) with
            | false => rfl
            | true =>
              obtain ⟨h0, h1, h2⟩ := List.any_eq_true.1 h
              obtain ⟨m, hm⟩ := List.mem_iff_getElem?.1 h1
              have h3 := (List.getElem?_eq_some_iff.1 hm).1
              rw [hr2.out.2 m h0 (by have := hkl.out; omega) hm] at h2
              cases h2
          have hrow2 := Lib.hid (hr.out.row.below hBo.out)
          have c4 : wp.cell? ⟨G, i * 5 + 4, none⟩ = some (.slice (some AW) wn wc) := row_cell hrow2.out hvk'.out 4 rfl
          have f4 : wp.frozen? ⟨G, i * 5 + 4, none⟩ = false := row_free hrow2.out _
          have hone1 : 1 ≤ wn := hwn'.out
          have hG1 := hfarG.out.2
          obtain ⟨X1, hX1⟩ : ∃ X1, wp.setCell ⟨G, i * 5 + 4, none⟩ (.slice (some (nxA WaitD wc AW)) (wn - 1) (wc - 1)) = X1 := ⟨_, rfl⟩
          have hgX : Hid (wp.grownBy X1 (some G)) := by rw [← hX1]; exact setCell_grown wp G _ _
          have hrowX : Hid (OwnS 43 X1 lo (.slice (some ⟨G, 0, none⟩) n c) (V.set i ⟨⟨t, kk, id⟩, hq, hn, hc, some (nxA WaitD wc AW), wn - 1, wc - 1⟩)) := by
            have h1 := row_wq (q := some (nxA WaitD wc AW)) (m := wn - 1) (d := wc - 1) hrow2.out hvk'.out
            rw [List.set_set, hX1] at h1
            exact h1
          have hVX : Hid ((V.set i (⟨⟨t, kk, id⟩, hq, hn, hc, some (nxA WaitD wc AW), wn - 1, wc - 1⟩ : QV))[i]? = some ⟨⟨t, kk, id⟩, hq, hn, hc, some (nxA WaitD wc AW), wn - 1, wc - 1⟩) := by show _ = _; rw [List.getElem?_set, if_pos rfl, if_pos hi'.out]
          have hohX := Lib.hid (hr.out.atX hG1 hBo.out hgX.out).1
          have hogX := Lib.hid (hr.out.atX hG1 hBo.out hgX.out).2
          have hfct := Lib.hid (hr.out.facts hG1)
          have hzX : Hid (wo.heap.size < X1.heap.size) := by show _ < _; have h1 := hgX.out.size; have h2 := hb1.out.2.2; have h3 := hr2.out.1.size; omega
          have hbfX : Hid (Boxed X1 wo.heap.size [.int .i64 ax, .int .i64 am, .int .i64 ah]) := fun j y hj => cell_ne' hgX.out (fun e => by
            rw [add_blk] at e
            have e2 : G = wo.heap.size := by simpa using e
            have h5 := hfct.out.2.2.2.2
            omega) ((hb1.out.2.1.below hr2.out.1 (Nat.le_refl _)) j y hj)
          have hgr := Lib.hid (grant_any lo G n c i (i * 5) rfl (V.set i ⟨⟨t, kk, id⟩, hq, hn, hc, some (nxA WaitD wc AW), wn - 1, wc - 1⟩) ⟨⟨t, kk, id⟩, hq, hn, hc, some (nxA WaitD wc AW), wn - 1, wc - 1⟩ hk ax am ah X1 (by have h1 := hlo'.out; have h2 := hfct.out.2.2.2.2; have h3 := hzX.out; omega) hrowX.out hVX.out hohX.out (fun a ha => (hfct.out.1 a ha).1) hr.out.so hhn.out)
          go_wp2_with (first
            | (with_reducible refine wpList_tailW rfl (.tmp 36) rfl rfl hone1 ?_)
            | (with_reducible refine wpList_load_at rfl 47 (.tmp 4) rfl Tryz.underlying47 rfl hs3 rfl hbfX.out.all ?_))
          refine hgr.out.mono ?_
          rintro e w4 ⟨q', m', c', rfl, g1, g2, g3, g4⟩
          rw [List.set_set] at g1
          have hg1 : Hid (OwnS 43 w4 lo (.slice (some ⟨G, 0, none⟩) n c) (V.set i ⟨⟨t, kk, id⟩, q', m', c', some (nxA WaitD wc AW), wn - 1, wc - 1⟩)) := g1
          have hg2 : Hid (OwnS 45 w4 lo (.slice q' m' c') (grantH hk ⟨ax, am⟩)) := g2
          have hg3 : Hid (NewAt hq q' X1.heap.size) := g3
          have hg4 : Hid (Fr (InQ G hq) X1 w4) := g4
          have hbf4 : Hid (Boxed w4 wo.heap.size [.int .i64 ax, .int .i64 am, .int .i64 ah]) := fun j y hj => by
            have h1 := hbfX.out j y hj
            rw [World.cell?_of_block (w := X1) (hg4.out.block _ (cell_in h1) (fun e => by
              rw [add_blk] at e
              rcases e with e | ⟨b, hb, e⟩
              · have e2 : wo.heap.size = G := e
                have h5 := hfct.out.2.2.2.2
                omega
              · have e2 : wo.heap.size = b.block := e
                have h5 := (hfct.out.1 b hb).2.1
                omega))]
            exact h1
          have hog4 : Hid (OwnS 3 w4 w.heap.size (.slice gq k gc) ((ws.take k).map (·.x))) := hogX.out.fr hg4.out (fun a ha e => by
            rcases e with e | ⟨b, hb, e⟩
            · exact (hfct.out.2.2.2.1 a ha).1 e
            · exact (hfct.out.2.2.2.1 a ha).2.2.2.2 b hb e)
          have e0 := hbf4.out.cell 0 rfl
          obtain ⟨W6, hW6⟩ : ∃ W', w4.alloc (.cells #[.int .i64 ax] 3) = W' := ⟨_, rfl⟩
          have hb6' := Lib.hid (one_box (xs := [.int .i64 ax]) hW6)
          have hrow : Hid (SlOn W6 (some ⟨w4.heap.size, 0, none⟩) 1 1 [ax]) := by
            have h0 := RowV.made (T := 3) w4 [.int .i64 ax]
            rw [hW6] at h0
            exact (OwnS.single (r := ax) h0).reads
          have ho6 := Lib.hid (hog4.out.below hb6'.out.1)
          have hk6 : Hid (k ≤ 300000) := by show _ ≤ _; have h1 := hlt'.out; have h2 := hsm'.out; omega
          have h40 : Hid ((k + 1) * 8 ≤ 140737488355328) := by have := hk6.out; show _ ≤ _; omega
          have h41 : Hid (k + 1 ≤ 140737488355328) := by have := hk6.out; show _ ≤ _; omega
          have hsz : Hid (w.heap.size ≤ W6.heap.size) := by show _ ≤ _; have h1 := hb6'.out.1.size; have h2 := hg4.out.size; have h3 := hzX.out; have h4 := hfct.out.2.2.2.2; omega
          clear g1 g2 g3 g4 hgr c4 f4 hX1
          go_wp2_with (first
            | (at_builtin
               refine wpList_append_l Tryz.underlying33 infoInt rfl rfl (.tmp 43) (.tmp 46) rfl rfl rfl ho6.out hrow.out h40.out h41.out hsz.out ?_
               intro q9 c9 w9 h1 h2 h3
               have hfin : Hid (PmS lo G n c i V v hs ws w (k + 1) q9 c9 ⟨⟨t, kk, id⟩, q', m', c', some (nxA WaitD wc AW), wn - 1, wc - 1⟩ (grantH hk ⟨ax, am⟩) w9) := hr.out.step hG1 hBo.out hgX.out hak'.out hgo.out hg1.out hg2.out hg3.out hg4.out hb6'.out.1 h1 h2 h3
               clear h1 h2 h3))
          go_roundw
          case rel => exact ⟨k + 1, q9, c9, _, _, rfl, hfin.out⟩
          case measure => simp [slLen]; have := hlt'.out; omega
    · have hw0 : wn = 0 := by omega
      subst hw0
      clear c3
      go_wp2
      try rw [Exit.noGoto_ret]
      go_ret
      exact hr.out.stop (fun a ha => by have := (List.getElem?_eq_some_iff.1 ha).1; omega) (Below.refl _ _)
end Go.Proofs.YtbgpppbcffpdbaaGreatDoor
