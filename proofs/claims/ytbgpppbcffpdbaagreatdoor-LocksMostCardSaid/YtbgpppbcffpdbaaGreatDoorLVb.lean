/- RightQueue of the document on locks: which queues may be. -/
import Derived.Test.YtbgpppbcffpdbaaGreatDoorLVa
import Derived.Test.YtbgpppbcffpdbaaGreatDoorLGm
namespace Go.Proofs.YtbgpppbcffpdbaaGreatDoor
open Go.RowKit

theorem qu_goes {d : QueD} (f : QuFit d) {i : Nat} {a : HoldD} (hi : d.hs[i]? = some a) : goesF d.hs a.x a.m = true := by
  unfold goesF
  rw [List.all_eq_true]
  intro b hb
  by_cases hx : b.x = a.x
  · simp [hx]
  · rw [(tog_mem f.hs.sort).1 f.hs.tog b hb a (List.mem_of_getElem? hi) hx, Bool.or_true]
theorem tog_of {hs : List HoldD} (hso : SortH hs) (h : ∀ (i : Nat) a, hs[i]? = some a → goesF hs a.x a.m = true) : togB hs = true := by
  refine (tog_mem hso).2 (fun a ha b hb hx => ?_)
  obtain ⟨i, hi⟩ := List.mem_iff_getElem?.1 hb
  have h1 := h i b hi
  unfold goesF at h1
  have h2 := List.all_eq_true.1 h1 a ha
  have h3 : (a.x == b.x) = false := by simpa using hx
  rwa [h3, Bool.false_or] at h2
theorem nd_at {ws : List WaitD} : (ws.map (·.x)).Nodup ↔ ∀ (i j : Nat) a b, j < i → ws[i]? = some a → ws[j]? = some b → b.x ≠ a.x := by
  unfold List.Nodup
  rw [List.pairwise_iff_getElem]
  constructor
  · intro h i j a b hij ha hb
    obtain ⟨la, ea⟩ := List.getElem?_eq_some_iff.1 ha
    obtain ⟨lb, eb⟩ := List.getElem?_eq_some_iff.1 hb
    have h1 := h j i (by rw [List.length_map]; exact lb) (by rw [List.length_map]; exact la) hij
    rw [List.getElem_map, List.getElem_map, ea, eb] at h1
    exact h1
  · intro h j i hj hi hij
    rw [List.length_map] at hj hi
    rw [List.getElem_map, List.getElem_map]
    exact h i j _ _ hij (List.getElem?_eq_getElem hi) (List.getElem?_eq_getElem hj)
theorem hf_sort {k : Bool} {hs : List HoldD} {n : Nat} (h : HfR k hs n) (hl : hs.length = n) : SortH hs := sort_adj fun j p a hp ha => h.adj j p a (by have := (List.getElem?_eq_some_iff.1 ha).1; omega) hp ha
/-- how far the waiters are right -/
structure WnR (k : Bool) (hs : List HoldD) (ws : List WaitD) (K : Nat) : Prop where
  wf : WfR k hs ws K
  nd : ∀ (i j : Nat) a b, i < K → j < i → ws[i]? = some a → ws[j]? = some b → b.x ≠ a.x

section
variable {P : Program} {ops : Array Oper} {Q : Exit → Act → World → Prop} {md : Region.Mode} {S C : World → Prop} {o : Oper} {fuel : Nat} {listed : Array Bool} {a : Act} {w : World}
theorem tr8 (i : Nat) (d : Tmp) (v : Value) (hD : ∀ u, S u → C u) (hS : S w) (h : wpAnyH P md ops Q S fuel (listed.setIfInBounds i true) (a.put (some d) v) w)
    (hi : ops[i]? = some o := by exact rfl) (hd : o.dst = some d := by exact rfl) (hw : Region.wanted o (yielded ops a.tmps) = true := by exact rfl)
    (hy : ∀ u, C u → (execOp a.eval o).run P u = .ok (.value v) u := by intro u hu; obtain ⟨d0, d1, d2, d3, d4, d5, d6, d7⟩ := hu; go_simp)
    (hs : Region.noSelect ops = true := by kernel_rfl) (hf : Region.free md ops listed i = true := by kernel_rfl) (hr : (Region.ready md ops listed).contains i = true := by kernel_rfl)
    (hQ : ∀ c a w, Q (.panic c) (a.put o.dst v) w → Q (.panic c) a w := by exact fun _ _ _ h => h) : wpAnyH P md ops Q S (fuel + 1) listed a w :=
  held_tk hd hi (.inl ⟨hw, fun u hu => hy u (hD u hu)⟩) hS h hs hf hr hQ
theorem tr7 (i : Nat) (d : Tmp) (v : Value) (hD : ∀ u, S u → C u) (hS : S w) (h : wpAnyH P md ops Q S fuel (listed.setIfInBounds i true) (a.put (some d) v) w)
    (hi : ops[i]? = some o := by exact rfl) (hd : o.dst = some d := by exact rfl) (hw : Region.wanted o (yielded ops a.tmps) = true := by exact rfl)
    (hy : ∀ u, C u → (execOp a.eval o).run P u = .ok (.value v) u := by intro u hu; obtain ⟨d0, d1, d2, d3, d4, d5, d6⟩ := hu; go_simp)
    (hs : Region.noSelect ops = true := by kernel_rfl) (hf : Region.free md ops listed i = true := by kernel_rfl) (hr : (Region.ready md ops listed).contains i = true := by kernel_rfl)
    (hQ : ∀ c a w, Q (.panic c) (a.put o.dst v) w → Q (.panic c) a w := by exact fun _ _ _ h => h) : wpAnyH P md ops Q S (fuel + 1) listed a w :=
  held_tk hd hi (.inl ⟨hw, fun u hu => hy u (hD u hu)⟩) hS h hs hf hr hQ
theorem tm (i : Nat) (d t : Tmp) (v : Value) (hS : S w) (h : wpAnyH P md ops Q S fuel (listed.setIfInBounds i true) (a.put (some d) v) w)
    (hi : ops[i]? = some o := by exact rfl) (hd : o.dst = some d := by exact rfl) (ho : o.op = .move (.tmp t) := by exact rfl) (hw : Region.wanted o (yielded ops a.tmps) = true := by exact rfl) (hx : a.eval (.tmp t) = v := by exact rfl)
    (hs : Region.noSelect ops = true := by kernel_rfl) (hf : Region.free md ops listed i = true := by kernel_rfl) (hr : (Region.ready md ops listed).contains i = true := by kernel_rfl)
    (hQ : ∀ c a w, Q (.panic c) (a.put o.dst v) w → Q (.panic c) a w := by exact fun _ _ _ h => h) : wpAnyH P md ops Q S (fuel + 1) listed a w :=
  held_tk hd hi (y_move (.tmp t) ho hw hx) hS h hs hf hr hQ
theorem tu (i : Nat) (d : Tmp) (hS : S w) (h : wpAnyH P md ops Q S fuel (listed.setIfInBounds i true) (a.put (some d) undef) w)
    (hi : ops[i]? = some o := by exact rfl) (hd : o.dst = some d := by exact rfl) (hw : Region.wanted o (yielded ops a.tmps) = false := by exact rfl)
    (hs : Region.noSelect ops = true := by kernel_rfl) (hf : Region.free md ops listed i = true := by kernel_rfl) (hr : (Region.ready md ops listed).contains i = true := by kernel_rfl)
    (hQ : ∀ c a w, Q (.panic c) (a.put o.dst undef) w → Q (.panic c) a w := by exact fun _ _ _ h => h) : wpAnyH P md ops Q S (fuel + 1) listed a w :=
  held_tk hd hi (.inr ⟨hw, rfl⟩) hS h hs hf hr hQ
end

set_option maxRecDepth 100000 in
set_option maxHeartbeats 8000000 in
theorem rque_any (v : QV) (d : QueD) (b : Bool) (hb : b = true ↔ QuFit d ∧ (d.ws.map (·.x)).Nodup) (w : World) (h : v.On w d) (hsm : d.hs.length ≤ 100000 ∧ d.ws.length ≤ 100000) :
    Calls Tryz.prog 36 #[v.val] w (fun e w' => e = .returned (.bool b) ∧ Below w.heap.size w w') := by
  obtain ⟨⟨t, k, id⟩, hq, hn, hc, wq, wn, wc⟩ := v
  obtain ⟨res, hs, ws⟩ := d
  have hres := h.res
  simp only at hres
  subst hres
  have h1 := h.hs
  have h2 := h.ws
  simp only at h1 h2 hsm
  have hn1 : hn ≤ 1000000 := by have := h1.len; omega
  have hn2 : wn ≤ 1000000 := by have := h2.len; omega
  rw [QV.val_eq]
  simp only
  obtain ⟨W, hW⟩ : ∃ W, w.alloc (.cells #[.int .i64 t, .bool k, .int .u16 id, .slice hq hn hc, .slice wq wn wc] 43) = W := ⟨_, rfl⟩
  have hbx := Lib.hid (one_box (xs := [.int .i64 t, .bool k, .int .u16 id, .slice hq hn hc, .slice wq wn wc]) hW)
  have hho := Lib.hid (h1.below hbx.out.1 (Nat.le_refl _))
  have hwo := Lib.hid (h2.below hbx.out.1 (Nat.le_refl _))
  have hb' := Lib.hid hb
  obtain ⟨rb, hrb⟩ : ∃ rb, resB ⟨t, k, id⟩ = rb := ⟨_, rfl⟩
  have hcr := Lib.hid (rres_any t k id W rb hrb)
  have hrb' := Lib.hid hrb
  have hl1 := Lib.hid h1.len
  have hl2 := Lib.hid h2.len
  have hwc : Hid (wn ≤ wc) := h2.le
  have q0 := hbx.out.2.1.cell 0 rfl
  have q1 := hbx.out.2.1.cell 1 rfl
  have q2 := hbx.out.2.1.cell 2 rfl
  have s3 := sizeRes (.int .i64 t) (.bool k) (.int .u16 id)
  clear h hb h1 h2 hrb hsm
  cases rb with
  | false =>
    have hfin : Hid (b = false) := no_b hb'.out (fun f => by have h := f.1.res; have h2 := hrb'.out; simp only at h; rw [h2] at h; cases h)
    go_enter Tryz.func36, Tryz.ntmps36
    go_wp2_with (first
      | (go_at_call 76
         refine hcr.out.mono ?_
         rintro e u1 ⟨rfl, hu1⟩
         have hB1 := Lib.hid (below_step hu1 hbx.out.1)
         clear hu1 hW))
    go_ret
    exact ⟨ret_b hfin.out.symm, hB1.out⟩
  | true =>
    by_cases hz : hn = 0
    · have hfin : Hid (b = false) := no_b hb'.out (fun f => f.1.hs.ne (List.length_eq_zero_iff.1 (by have := hl1.out; show hs.length = 0; omega)))
      have hz0 : ((hn : Int) == 0) = true := by simp [hz]
      clear hz
      go_enter Tryz.func36, Tryz.ntmps36
      go_wp2_with (first
        | (go_at_call 76
           refine hcr.out.mono ?_
           rintro e u1 ⟨rfl, hu1⟩
           have hB1 := Lib.hid (below_step hu1 hbx.out.1)
           have q3 := (hbx.out.2.1.below hu1 (Nat.le_refl _)).cell 3 rfl
           clear hu1 hW))
      go_ret
      exact ⟨ret_b hfin.out.symm, hB1.out⟩
    · have hz0 : ((hn : Int) == 0) = false := by rw [beq_eq_false_iff_ne]; omega
      have hzn : Hid (hn ≠ 0) := hz
      clear hz
      go_enter Tryz.func36, Tryz.ntmps36
      go_wp2_with (first
        | (go_at_call 76
           refine hcr.out.mono ?_
           rintro e u1 ⟨rfl, hu1⟩
           have hB1 := Lib.hid hu1
           have q3 := (hbx.out.2.1.below hu1 (Nat.le_refl _)).cell 3 rfl
           clear hu1 hW q0 q1 q2))
      clear q3
      go_loopw [22] (fun v22 wr => ∃ K : Nat, K ≤ hn ∧ v22 = .int .i64 K ∧ Hid (Below W.heap.size W wr) ∧ Hid (HfR k hs K) ∧ Hid (∀ (i : Nat) a, i < K → hs[i]? = some a → goesF hs a.x a.m = true)) (fun v22 _ => hn - (intOf v22).toNat)
      case atStart => exact ⟨0, Nat.zero_le _, rfl, hB1.out, ⟨fun i h hi => by omega, fun j p a hj => by omega⟩, Lib.hid (fun i a hi => by omega)⟩
      case round =>
        obtain ⟨K, hK, rfl, hbr, hr, hgf⟩ := hrel
        obtain ⟨wo, rfl⟩ : ∃ u, u = wr := ⟨_, rfl⟩
        by_cases hlt : K < hn
        · obtain ⟨A, ⟨hx, hm⟩, hqA, hH, hcA⟩ := (hho.out.below hbr.out (Nat.le_refl _)).at hlt
          subst hqA
          have hcell : Hid (∀ j' v, ([.int .i64 hx, .int .i64 hm] : List Value)[j']? = some v → wo.cell? ((A.add (K * 2)).add j') = some v) := fun j' v hj => hcA j' v hj
          have hs2 := sizeHold (.int .i64 hx) (.int .i64 hm)
          have hH' := Lib.hid hH
          have i0 : (0 : Int) ≤ K := by omega
          have i1 : (K : Int) < hn := by omega
          obtain ⟨WA, hWA⟩ : ∃ W', wo.alloc (.cells #[.int .i64 hx, .int .i64 hm] 45) = W' := ⟨_, rfl⟩
          have hbA := Lib.hid (one_box (xs := [.int .i64 hx, .int .i64 hm]) hWA)
          have hBA := Lib.hid (below_step hbA.out.1 hbr.out)
          have hqx := Lib.hid (hbx.out.2.1.below hBA.out (Nat.le_refl _))
          have hhA := Lib.hid (hho.out.below hBA.out (Nat.le_refl _))
          obtain ⟨B, hB⟩ : ∃ B, wo.heap.size = B := ⟨_, rfl⟩
          have hbB : Hid (Boxed WA B [.int .i64 hx, .int .i64 hm]) := by have h := hbA.out.2.1; rw [hB] at h; exact h
          obtain ⟨tb, htb⟩ : ∃ tb, txnB hx = tb := ⟨_, rfl⟩
          obtain ⟨mb, hmb⟩ : ∃ mb, modB k hm = mb := ⟨_, rfl⟩
          obtain ⟨gb, hgb⟩ : ∃ gb, goesF hs hx hm = gb := ⟨_, rfl⟩
          have hct := Lib.hid (fun u => rtxn_any hx u tb htb)
          have hcm := Lib.hid (fun u => rmode_any t k id hm u mb hmb)
          have hcg := Lib.hid (fun u hu => rgo_any t k id (some A) hn hc wq wn wc hs hx hm gb u (hhA.out.below (B := WA.heap.size) hu (Nat.le_refl _)) hgb)
          have htb' := Lib.hid htb
          have hmb' := Lib.hid hmb
          have hgb' := Lib.hid hgb
          clear htb hmb hgb hH hcA
          cases tb with
          | false =>
            have hfin : Hid (b = false) := no_b hb'.out (fun f => HsFit.bad1 hH'.out (.inl htb'.out) f.1.hs)
            have d0 := hbB.out.cell 0 rfl
            go_wp2_with (first
              | (with_reducible refine wpList_load_at rfl 45 (.tmp 25) rfl Tryz.underlying45 rfl hs2 rfl hcell.out ?_))
            clear hWA hB
            go_quiet (first | (go_at_call 74; refine Calls.quiet_of_same (hct.out _)))
            clear d0
            go_wp2
            go_ret
            exact ⟨ret_b hfin.out.symm, below_step (hBA.out.trans ((below_drewN _ _).mono hBA.out.size)) hbx.out.1⟩
          | true =>
            have hstep : (∀ j p, K = j + 1 → hs[j]? = some p → p.x < hx) → modB k hm = true → goesF hs hx hm = true → Hid (HfR k hs (K + 1)) ∧ Hid (∀ (i : Nat) a, i < K + 1 → hs[i]? = some a → goesF hs a.x a.m = true) := fun h1 h2 h3 => by
              refine ⟨⟨fun i a hi ha => ?_, fun j p a hj hp ha => ?_⟩, fun i a hi ha => ?_⟩
              · rcases Nat.lt_or_ge i K with h4 | h4
                · exact hr.out.one i a h4 ha
                · obtain rfl : i = K := by omega
                  rw [hH'.out] at ha; cases ha
                  exact ⟨htb'.out, h2⟩
              · rcases Nat.lt_or_ge (j + 1) K with h4 | h4
                · exact hr.out.adj j p a h4 hp ha
                · have h5 : K = j + 1 := by omega
                  rw [← h5, hH'.out] at ha; cases ha
                  exact h1 j p h5 hp
              · rcases Nat.lt_or_ge i K with h4 | h4
                · exact hgf.out i a h4 ha
                · obtain rfl : i = K := by omega
                  rw [hH'.out] at ha; cases ha
                  exact h3
            rcases Nat.eq_zero_or_pos K with hk0 | hpos
            · have hKz := Lib.hid hk0
              have hst := fun h2 h3 => hstep (fun j p e => by omega) h2 h3
              clear hk0 hstep
              go_wp2_with (first
                | (with_reducible refine wpList_load_at rfl 45 (.tmp 25) rfl Tryz.underlying45 rfl hs2 rfl hcell.out ?_))
              clear hWA hB
              cases mb with
              | false =>
                have hfin : Hid (b = false) := no_b hb'.out (fun f => HsFit.bad1 hH'.out (.inr hmb'.out) f.1.hs)
                have hD : Hid (∀ u, Below WA.heap.size WA u → u.cell? ⟨B, 0, none⟩ = some (.int .i64 hx) ∧ u.cell? ⟨B, 1, none⟩ = some (.int .i64 hm) ∧ u.cell? ⟨w.heap.size, 0, none⟩ = some (.int .i64 t) ∧ u.cell? ⟨w.heap.size, 1, none⟩ = some (.bool k) ∧ u.cell? ⟨w.heap.size, 2, none⟩ = some (.int .u16 id) ∧ u.cell? ⟨w.heap.size, 3, none⟩ = some (.slice (some A) hn hc) ∧ u.cell? ⟨w.heap.size, 4, none⟩ = some (.slice wq wn wc)) := fun u hu => ⟨(hbB.out.below hu (Nat.le_refl _)).cell 0 rfl, (hbB.out.below hu (Nat.le_refl _)).cell 1 rfl, (hqx.out.below hu (Nat.le_refl _)).cell 0 rfl, (hqx.out.below hu (Nat.le_refl _)).cell 1 rfl, (hqx.out.below hu (Nat.le_refl _)).cell 2 rfl, (hqx.out.below hu (Nat.le_refl _)).cell 3 rfl, (hqx.out.below hu (Nat.le_refl _)).cell 4 rfl⟩
                refine wp_region_held (S := fun u => Below WA.heap.size WA u) (by kernel_rfl) ?_
                change wpAnyH _ _ _ _ _ _ _ _ (World.drew WA)
                have hS0 : Below WA.heap.size WA WA.drew := below_drew _
                refine tr7 0 27 (.pointer (some ⟨B, 0, none⟩)) hD.out hS0 ?_; go_frame
                refine tr7 1 28 (.int .i64 hx) hD.out hS0 ?_; go_frame
                refine held_call (i := 2) (dst := some 29) rfl rfl (by kernel_rfl) rfl (by go_simp) (hct.out _) ?_
                rintro e u1 ⟨rfl, hb1⟩
                have hS1 := hb1 ▸ hS0
                refine ⟨_, rfl, hS1, ?_⟩
                go_frame
                refine tr7 3 30 (.bool false) hD.out hS1 ?_; go_frame
                refine tm 4 31 30 (.bool false) hS1 ?_; go_frame
                refine held_tk (i := 5) (dst := some 32) rfl rfl (y_move (.tmp 3) rfl rfl rfl) hS1 ?_
                go_frame
                refine held_tk (i := 6) (dst := some 33) (v := .bool false) rfl rfl (.inl ⟨rfl, fun u hu => by go_simp; exact hKz.out⟩) hS1 ?_
                go_frame
                refine tm 7 34 33 (.bool false) hS1 ?_; go_frame
                refine tu 8 35 hS1 ?_; go_frame
                refine tu 9 36 hS1 ?_; go_frame
                refine tu 10 37 hS1 ?_; go_frame
                refine tu 11 38 hS1 ?_; go_frame
                refine tu 12 39 hS1 ?_; go_frame
                refine tu 13 40 hS1 ?_; go_frame
                refine tu 14 41 hS1 ?_; go_frame
                refine tu 15 42 hS1 ?_; go_frame
                refine tu 16 43 hS1 ?_; go_frame
                refine tu 17 44 hS1 ?_; go_frame
                refine tr7 18 45 (.bool false) hD.out hS1 ?_; go_frame
                refine tr7 19 46 (.bool false) hD.out hS1 ?_; go_frame
                refine tm 20 47 46 (.bool false) hS1 ?_; go_frame
                refine tr7 21 48 (.pointer (some ⟨w.heap.size, 0, none⟩)) hD.out hS1 ?_; go_frame
                refine tr7 22 49 (.agg #[.int .i64 t, .bool k, .int .u16 id]) hD.out hS1 ?_; go_frame
                refine tr7 23 50 (.pointer (some ⟨B, 1, none⟩)) hD.out hS1 ?_; go_frame
                refine tr7 24 51 (.int .i64 hm) hD.out hS1 ?_; go_frame
                refine held_call (i := 25) (dst := some 52) rfl rfl (by kernel_rfl) rfl (by go_simp) (hcm.out _) ?_
                rintro e u2 ⟨rfl, hb2⟩
                have hS2 := below_step hb2 hS1
                refine ⟨_, rfl, hS2, ?_⟩
                go_frame
                refine tr7 26 53 (.bool true) hD.out hS2 ?_; go_frame
                refine tr7 27 54 (.bool true) hD.out hS2 ?_; go_frame
                refine tm 28 55 54 (.bool true) hS2 ?_; go_frame
                refine tu 29 56 hS2 ?_; go_frame
                refine tu 30 57 hS2 ?_; go_frame
                refine tu 31 58 hS2 ?_; go_frame
                refine tu 32 59 hS2 ?_; go_frame
                refine tu 33 60 hS2 ?_; go_frame
                refine tu 34 61 hS2 ?_; go_frame
                refine tu 35 62 hS2 ?_; go_frame
                refine tr7 36 63 (.bool true) hD.out hS2 ?_; go_frame
                refine wpAnyH_done (by kernel_rfl) ?_ _
                have hS9 := Lib.hid (below_step (below_step hS2 hBA.out) hbx.out.1)
                go_wp2
                go_ret
                exact ⟨ret_b hfin.out.symm, hS9.out⟩
              | true =>
                cases gb with
                | false =>
                  have hfin : Hid (b = false) := no_b hb'.out (fun f => by have h1 := qu_goes f.1 hH'.out; have h2 := hgb'.out; simp only at h1; rw [h2] at h1; cases h1)
                  have hD : Hid (∀ u, Below WA.heap.size WA u → u.cell? ⟨B, 0, none⟩ = some (.int .i64 hx) ∧ u.cell? ⟨B, 1, none⟩ = some (.int .i64 hm) ∧ u.cell? ⟨w.heap.size, 0, none⟩ = some (.int .i64 t) ∧ u.cell? ⟨w.heap.size, 1, none⟩ = some (.bool k) ∧ u.cell? ⟨w.heap.size, 2, none⟩ = some (.int .u16 id) ∧ u.cell? ⟨w.heap.size, 3, none⟩ = some (.slice (some A) hn hc) ∧ u.cell? ⟨w.heap.size, 4, none⟩ = some (.slice wq wn wc)) := fun u hu => ⟨(hbB.out.below hu (Nat.le_refl _)).cell 0 rfl, (hbB.out.below hu (Nat.le_refl _)).cell 1 rfl, (hqx.out.below hu (Nat.le_refl _)).cell 0 rfl, (hqx.out.below hu (Nat.le_refl _)).cell 1 rfl, (hqx.out.below hu (Nat.le_refl _)).cell 2 rfl, (hqx.out.below hu (Nat.le_refl _)).cell 3 rfl, (hqx.out.below hu (Nat.le_refl _)).cell 4 rfl⟩
                  refine wp_region_held (S := fun u => Below WA.heap.size WA u) (by kernel_rfl) ?_
                  change wpAnyH _ _ _ _ _ _ _ _ (World.drew WA)
                  have hS0 : Below WA.heap.size WA WA.drew := below_drew _
                  refine tr7 0 27 (.pointer (some ⟨B, 0, none⟩)) hD.out hS0 ?_; go_frame
                  refine tr7 1 28 (.int .i64 hx) hD.out hS0 ?_; go_frame
                  refine held_call (i := 2) (dst := some 29) rfl rfl (by kernel_rfl) rfl (by go_simp) (hct.out _) ?_
                  rintro e u1 ⟨rfl, hb1⟩
                  have hS1 := hb1 ▸ hS0
                  refine ⟨_, rfl, hS1, ?_⟩
                  go_frame
                  refine tr7 3 30 (.bool false) hD.out hS1 ?_; go_frame
                  refine tm 4 31 30 (.bool false) hS1 ?_; go_frame
                  refine held_tk (i := 5) (dst := some 32) rfl rfl (y_move (.tmp 3) rfl rfl rfl) hS1 ?_
                  go_frame
                  refine held_tk (i := 6) (dst := some 33) (v := .bool false) rfl rfl (.inl ⟨rfl, fun u hu => by go_simp; exact hKz.out⟩) hS1 ?_
                  go_frame
                  refine tm 7 34 33 (.bool false) hS1 ?_; go_frame
                  refine tu 8 35 hS1 ?_; go_frame
                  refine tu 9 36 hS1 ?_; go_frame
                  refine tu 10 37 hS1 ?_; go_frame
                  refine tu 11 38 hS1 ?_; go_frame
                  refine tu 12 39 hS1 ?_; go_frame
                  refine tu 13 40 hS1 ?_; go_frame
                  refine tu 14 41 hS1 ?_; go_frame
                  refine tu 15 42 hS1 ?_; go_frame
                  refine tu 16 43 hS1 ?_; go_frame
                  refine tu 17 44 hS1 ?_; go_frame
                  refine tr7 18 45 (.bool false) hD.out hS1 ?_; go_frame
                  refine tr7 19 46 (.bool false) hD.out hS1 ?_; go_frame
                  refine tm 20 47 46 (.bool false) hS1 ?_; go_frame
                  refine tr7 21 48 (.pointer (some ⟨w.heap.size, 0, none⟩)) hD.out hS1 ?_; go_frame
                  refine tr7 22 49 (.agg #[.int .i64 t, .bool k, .int .u16 id]) hD.out hS1 ?_; go_frame
                  refine tr7 23 50 (.pointer (some ⟨B, 1, none⟩)) hD.out hS1 ?_; go_frame
                  refine tr7 24 51 (.int .i64 hm) hD.out hS1 ?_; go_frame
                  refine held_call (i := 25) (dst := some 52) rfl rfl (by kernel_rfl) rfl (by go_simp) (hcm.out _) ?_
                  rintro e u2 ⟨rfl, hb2⟩
                  have hS2 := below_step hb2 hS1
                  refine ⟨_, rfl, hS2, ?_⟩
                  go_frame
                  refine tr7 26 53 (.bool false) hD.out hS2 ?_; go_frame
                  refine tr7 27 54 (.bool false) hD.out hS2 ?_; go_frame
                  refine tm 28 55 54 (.bool false) hS2 ?_; go_frame
                  refine tr7 29 56 (.agg #[.int .i64 t, .bool k, .int .u16 id, .slice (some A) hn hc, .slice wq wn wc]) hD.out hS2 ?_; go_frame
                  refine tr7 30 57 (.pointer (some ⟨B, 0, none⟩)) hD.out hS2 ?_; go_frame
                  refine tr7 31 58 (.int .i64 hx) hD.out hS2 ?_; go_frame
                  refine tr7 32 59 (.pointer (some ⟨B, 1, none⟩)) hD.out hS2 ?_; go_frame
                  refine tr7 33 60 (.int .i64 hm) hD.out hS2 ?_; go_frame
                  refine held_call (i := 34) (dst := some 61) rfl rfl (by kernel_rfl) rfl (by go_simp) (hcg.out _ hS2) ?_
                  rintro e u3 ⟨rfl, hb3⟩
                  have hS3 := below_step hb3 hS2
                  refine ⟨_, rfl, hS3, ?_⟩
                  go_frame
                  refine tr7 35 62 (.bool true) hD.out hS3 ?_; go_frame
                  refine tr7 36 63 (.bool true) hD.out hS3 ?_; go_frame
                  refine wpAnyH_done (by kernel_rfl) ?_ _
                  have hS9 := Lib.hid (below_step (below_step hS3 hBA.out) hbx.out.1)
                  go_wp2
                  go_ret
                  exact ⟨ret_b hfin.out.symm, hS9.out⟩
                | true =>
                  obtain ⟨hr2, hgf2⟩ := hst hmb'.out hgb'.out
                  have hD : Hid (∀ u, Below WA.heap.size WA u → u.cell? ⟨B, 0, none⟩ = some (.int .i64 hx) ∧ u.cell? ⟨B, 1, none⟩ = some (.int .i64 hm) ∧ u.cell? ⟨w.heap.size, 0, none⟩ = some (.int .i64 t) ∧ u.cell? ⟨w.heap.size, 1, none⟩ = some (.bool k) ∧ u.cell? ⟨w.heap.size, 2, none⟩ = some (.int .u16 id) ∧ u.cell? ⟨w.heap.size, 3, none⟩ = some (.slice (some A) hn hc) ∧ u.cell? ⟨w.heap.size, 4, none⟩ = some (.slice wq wn wc)) := fun u hu => ⟨(hbB.out.below hu (Nat.le_refl _)).cell 0 rfl, (hbB.out.below hu (Nat.le_refl _)).cell 1 rfl, (hqx.out.below hu (Nat.le_refl _)).cell 0 rfl, (hqx.out.below hu (Nat.le_refl _)).cell 1 rfl, (hqx.out.below hu (Nat.le_refl _)).cell 2 rfl, (hqx.out.below hu (Nat.le_refl _)).cell 3 rfl, (hqx.out.below hu (Nat.le_refl _)).cell 4 rfl⟩
                  refine wp_region_held (S := fun u => Below WA.heap.size WA u) (by kernel_rfl) ?_
                  change wpAnyH _ _ _ _ _ _ _ _ (World.drew WA)
                  have hS0 : Below WA.heap.size WA WA.drew := below_drew _
                  refine tr7 0 27 (.pointer (some ⟨B, 0, none⟩)) hD.out hS0 ?_; go_frame
                  refine tr7 1 28 (.int .i64 hx) hD.out hS0 ?_; go_frame
                  refine held_call (i := 2) (dst := some 29) rfl rfl (by kernel_rfl) rfl (by go_simp) (hct.out _) ?_
                  rintro e u1 ⟨rfl, hb1⟩
                  have hS1 := hb1 ▸ hS0
                  refine ⟨_, rfl, hS1, ?_⟩
                  go_frame
                  refine tr7 3 30 (.bool false) hD.out hS1 ?_; go_frame
                  refine tm 4 31 30 (.bool false) hS1 ?_; go_frame
                  refine held_tk (i := 5) (dst := some 32) rfl rfl (y_move (.tmp 3) rfl rfl rfl) hS1 ?_
                  go_frame
                  refine held_tk (i := 6) (dst := some 33) (v := .bool false) rfl rfl (.inl ⟨rfl, fun u hu => by go_simp; exact hKz.out⟩) hS1 ?_
                  go_frame
                  refine tm 7 34 33 (.bool false) hS1 ?_; go_frame
                  refine tu 8 35 hS1 ?_; go_frame
                  refine tu 9 36 hS1 ?_; go_frame
                  refine tu 10 37 hS1 ?_; go_frame
                  refine tu 11 38 hS1 ?_; go_frame
                  refine tu 12 39 hS1 ?_; go_frame
                  refine tu 13 40 hS1 ?_; go_frame
                  refine tu 14 41 hS1 ?_; go_frame
                  refine tu 15 42 hS1 ?_; go_frame
                  refine tu 16 43 hS1 ?_; go_frame
                  refine tu 17 44 hS1 ?_; go_frame
                  refine tr7 18 45 (.bool false) hD.out hS1 ?_; go_frame
                  refine tr7 19 46 (.bool false) hD.out hS1 ?_; go_frame
                  refine tm 20 47 46 (.bool false) hS1 ?_; go_frame
                  refine tr7 21 48 (.pointer (some ⟨w.heap.size, 0, none⟩)) hD.out hS1 ?_; go_frame
                  refine tr7 22 49 (.agg #[.int .i64 t, .bool k, .int .u16 id]) hD.out hS1 ?_; go_frame
                  refine tr7 23 50 (.pointer (some ⟨B, 1, none⟩)) hD.out hS1 ?_; go_frame
                  refine tr7 24 51 (.int .i64 hm) hD.out hS1 ?_; go_frame
                  refine held_call (i := 25) (dst := some 52) rfl rfl (by kernel_rfl) rfl (by go_simp) (hcm.out _) ?_
                  rintro e u2 ⟨rfl, hb2⟩
                  have hS2 := below_step hb2 hS1
                  refine ⟨_, rfl, hS2, ?_⟩
                  go_frame
                  refine tr7 26 53 (.bool false) hD.out hS2 ?_; go_frame
                  refine tr7 27 54 (.bool false) hD.out hS2 ?_; go_frame
                  refine tm 28 55 54 (.bool false) hS2 ?_; go_frame
                  refine tr7 29 56 (.agg #[.int .i64 t, .bool k, .int .u16 id, .slice (some A) hn hc, .slice wq wn wc]) hD.out hS2 ?_; go_frame
                  refine tr7 30 57 (.pointer (some ⟨B, 0, none⟩)) hD.out hS2 ?_; go_frame
                  refine tr7 31 58 (.int .i64 hx) hD.out hS2 ?_; go_frame
                  refine tr7 32 59 (.pointer (some ⟨B, 1, none⟩)) hD.out hS2 ?_; go_frame
                  refine tr7 33 60 (.int .i64 hm) hD.out hS2 ?_; go_frame
                  refine held_call (i := 34) (dst := some 61) rfl rfl (by kernel_rfl) rfl (by go_simp) (hcg.out _ hS2) ?_
                  rintro e u3 ⟨rfl, hb3⟩
                  have hS3 := below_step hb3 hS2
                  refine ⟨_, rfl, hS3, ?_⟩
                  go_frame
                  refine tr7 35 62 (.bool false) hD.out hS3 ?_; go_frame
                  refine tr7 36 63 (.bool false) hD.out hS3 ?_; go_frame
                  refine wpAnyH_done (by kernel_rfl) ?_ _
                  have hS9 := Lib.hid (below_step hS3 hBA.out)
                  go_wp2
                  go_roundw
                  case rel => exact ⟨K + 1, by omega, by go_num, hS9.out, hr2.out, hgf2⟩
                  case measure => simp [intOf]; omega
            · obtain ⟨m, rfl⟩ : ∃ m, K = m + 1 := ⟨K - 1, by omega⟩
              obtain ⟨A', ⟨px, pm⟩, hqA', hy, hcy⟩ := (hho.out.below hbr.out (Nat.le_refl _)).at (show m < hn by omega)
              cases hqA'
              have hy' := Lib.hid hy
              have hcy' := Lib.hid (fun (u : World) (hu : Below WA.heap.size WA u) => (by have h := cell_kept (below_step hu hbA.out.1) (Nat.le_refl _) (hcy 0 _ rfl); rwa [add0] at h : u.cell? (A.add (m * 2)) = some (.int .i64 px)))
              have kp : (0 : Int) < (m : Int) + 1 := by omega
              have w0 : IntKind.i64.wrap ((m : Int) + 1 - 1) = m := by rw [Int.add_sub_cancel]; exact IntWalk.i64_in (m : Int) (by omega)
              have w1' : IntKind.i64.wrap (m : Int) = m := IntWalk.i64_in (m : Int) (by omega)
              have j0 : (0 : Int) ≤ m := by omega
              have j1 : (m : Int) < hn := by omega
              clear hy hcy
              by_cases hge : px ≥ hx
              · have hfin : Hid (b = false) := no_b hb'.out (fun f => HsFit.bad2 hy'.out hH'.out (by show ¬ px < hx; omega) f.1.hs)
                clear hstep
                go_wp2_with (first
                  | (with_reducible refine wpList_load_at rfl 45 (.tmp 25) rfl Tryz.underlying45 rfl hs2 rfl hcell.out ?_))
                clear hWA hB
                have d0 := hbB.out.cell 0 rfl
                have q3 := hqx.out.cell 3 rfl
                have g0 := hcy'.out WA (Below.refl _ _)
                go_quiet (first | (go_at_call 74; refine Calls.quiet_of_same (hct.out _)))
                clear d0 q3 g0
                go_wp2
                go_ret
                exact ⟨ret_b hfin.out.symm, below_step (hBA.out.trans ((below_drewN _ _).mono hBA.out.size)) hbx.out.1⟩
              · have hst := fun h2 h3 => hstep (fun j p e hp => by obtain rfl : j = m := by omega
                                                                   rw [hy'.out] at hp; cases hp; show px < hx; omega) h2 h3
                clear hstep
                go_wp2_with (first
                  | (with_reducible refine wpList_load_at rfl 45 (.tmp 25) rfl Tryz.underlying45 rfl hs2 rfl hcell.out ?_))
                clear hWA hB
                cases mb with
                | false =>
                  have hfin : Hid (b = false) := no_b hb'.out (fun f => HsFit.bad1 hH'.out (.inr hmb'.out) f.1.hs)
                  have hD : Hid (∀ u, Below WA.heap.size WA u → u.cell? ⟨B, 0, none⟩ = some (.int .i64 hx) ∧ u.cell? ⟨B, 1, none⟩ = some (.int .i64 hm) ∧ u.cell? ⟨w.heap.size, 0, none⟩ = some (.int .i64 t) ∧ u.cell? ⟨w.heap.size, 1, none⟩ = some (.bool k) ∧ u.cell? ⟨w.heap.size, 2, none⟩ = some (.int .u16 id) ∧ u.cell? ⟨w.heap.size, 3, none⟩ = some (.slice (some A) hn hc) ∧ u.cell? ⟨w.heap.size, 4, none⟩ = some (.slice wq wn wc) ∧ u.cell? (A.add (m * 2)) = some (.int .i64 px)) := fun u hu => ⟨(hbB.out.below hu (Nat.le_refl _)).cell 0 rfl, (hbB.out.below hu (Nat.le_refl _)).cell 1 rfl, (hqx.out.below hu (Nat.le_refl _)).cell 0 rfl, (hqx.out.below hu (Nat.le_refl _)).cell 1 rfl, (hqx.out.below hu (Nat.le_refl _)).cell 2 rfl, (hqx.out.below hu (Nat.le_refl _)).cell 3 rfl, (hqx.out.below hu (Nat.le_refl _)).cell 4 rfl, hcy'.out _ hu⟩
                  refine wp_region_held (S := fun u => Below WA.heap.size WA u) (by kernel_rfl) ?_
                  change wpAnyH _ _ _ _ _ _ _ _ (World.drew WA)
                  have hS0 : Below WA.heap.size WA WA.drew := below_drew _
                  refine tr8 0 27 (.pointer (some ⟨B, 0, none⟩)) hD.out hS0 ?_; go_frame
                  refine tr8 1 28 (.int .i64 hx) hD.out hS0 ?_; go_frame
                  refine held_call (i := 2) (dst := some 29) rfl rfl (by kernel_rfl) rfl (by go_simp) (hct.out _) ?_
                  rintro e u1 ⟨rfl, hb1⟩
                  have hS1 := hb1 ▸ hS0
                  refine ⟨_, rfl, hS1, ?_⟩
                  go_frame
                  refine tr8 3 30 (.bool false) hD.out hS1 ?_; go_frame
                  refine tm 4 31 30 (.bool false) hS1 ?_; go_frame
                  refine held_tk (i := 5) (dst := some 32) rfl rfl (y_move (.tmp 3) rfl rfl rfl) hS1 ?_
                  go_frame
                  refine tr8 6 33 (.bool true) hD.out hS1 ?_; go_frame
                  refine tm 7 34 33 (.bool true) hS1 ?_; go_frame
                  refine tr8 8 35 (.pointer (some ⟨w.heap.size, 3, none⟩)) hD.out hS1 ?_; go_frame
                  refine tr8 9 36 (.slice (some A) hn hc) hD.out hS1 ?_; go_frame
                  refine held_tk (i := 10) (dst := some 37) rfl rfl (y_move (.tmp 3) rfl rfl rfl) hS1 ?_
                  go_frame
                  refine tr8 11 38 (.int .i64 (m : Int)) hD.out hS1 ?_; go_frame
                  refine tr8 12 39 (.pointer (some (A.add (m * 2)))) hD.out hS1 ?_; go_frame
                  refine tr8 13 40 (.pointer (some (A.add (m * 2)))) hD.out hS1 ?_; go_frame
                  refine tr8 14 41 (.int .i64 px) hD.out hS1 ?_; go_frame
                  refine tr8 15 42 (.pointer (some ⟨B, 0, none⟩)) hD.out hS1 ?_; go_frame
                  refine tr8 16 43 (.int .i64 hx) hD.out hS1 ?_; go_frame
                  refine tr8 17 44 (.bool false) hD.out hS1 ?_; go_frame
                  refine tr8 18 45 (.bool false) hD.out hS1 ?_; go_frame
                  refine tr8 19 46 (.bool false) hD.out hS1 ?_; go_frame
                  refine tm 20 47 46 (.bool false) hS1 ?_; go_frame
                  refine tr8 21 48 (.pointer (some ⟨w.heap.size, 0, none⟩)) hD.out hS1 ?_; go_frame
                  refine tr8 22 49 (.agg #[.int .i64 t, .bool k, .int .u16 id]) hD.out hS1 ?_; go_frame
                  refine tr8 23 50 (.pointer (some ⟨B, 1, none⟩)) hD.out hS1 ?_; go_frame
                  refine tr8 24 51 (.int .i64 hm) hD.out hS1 ?_; go_frame
                  refine held_call (i := 25) (dst := some 52) rfl rfl (by kernel_rfl) rfl (by go_simp) (hcm.out _) ?_
                  rintro e u2 ⟨rfl, hb2⟩
                  have hS2 := below_step hb2 hS1
                  refine ⟨_, rfl, hS2, ?_⟩
                  go_frame
                  refine tr8 26 53 (.bool true) hD.out hS2 ?_; go_frame
                  refine tr8 27 54 (.bool true) hD.out hS2 ?_; go_frame
                  refine tm 28 55 54 (.bool true) hS2 ?_; go_frame
                  refine tu 29 56 hS2 ?_; go_frame
                  refine tu 30 57 hS2 ?_; go_frame
                  refine tu 31 58 hS2 ?_; go_frame
                  refine tu 32 59 hS2 ?_; go_frame
                  refine tu 33 60 hS2 ?_; go_frame
                  refine tu 34 61 hS2 ?_; go_frame
                  refine tu 35 62 hS2 ?_; go_frame
                  refine tr8 36 63 (.bool true) hD.out hS2 ?_; go_frame
                  refine wpAnyH_done (by kernel_rfl) ?_ _
                  have hS9 := Lib.hid (below_step (below_step hS2 hBA.out) hbx.out.1)
                  go_wp2
                  go_ret
                  exact ⟨ret_b hfin.out.symm, hS9.out⟩
                | true =>
                  cases gb with
                  | false =>
                    have hfin : Hid (b = false) := no_b hb'.out (fun f => by have h1 := qu_goes f.1 hH'.out; have h2 := hgb'.out; simp only at h1; rw [h2] at h1; cases h1)
                    have hD : Hid (∀ u, Below WA.heap.size WA u → u.cell? ⟨B, 0, none⟩ = some (.int .i64 hx) ∧ u.cell? ⟨B, 1, none⟩ = some (.int .i64 hm) ∧ u.cell? ⟨w.heap.size, 0, none⟩ = some (.int .i64 t) ∧ u.cell? ⟨w.heap.size, 1, none⟩ = some (.bool k) ∧ u.cell? ⟨w.heap.size, 2, none⟩ = some (.int .u16 id) ∧ u.cell? ⟨w.heap.size, 3, none⟩ = some (.slice (some A) hn hc) ∧ u.cell? ⟨w.heap.size, 4, none⟩ = some (.slice wq wn wc) ∧ u.cell? (A.add (m * 2)) = some (.int .i64 px)) := fun u hu => ⟨(hbB.out.below hu (Nat.le_refl _)).cell 0 rfl, (hbB.out.below hu (Nat.le_refl _)).cell 1 rfl, (hqx.out.below hu (Nat.le_refl _)).cell 0 rfl, (hqx.out.below hu (Nat.le_refl _)).cell 1 rfl, (hqx.out.below hu (Nat.le_refl _)).cell 2 rfl, (hqx.out.below hu (Nat.le_refl _)).cell 3 rfl, (hqx.out.below hu (Nat.le_refl _)).cell 4 rfl, hcy'.out _ hu⟩
                    refine wp_region_held (S := fun u => Below WA.heap.size WA u) (by kernel_rfl) ?_
                    change wpAnyH _ _ _ _ _ _ _ _ (World.drew WA)
                    have hS0 : Below WA.heap.size WA WA.drew := below_drew _
                    refine tr8 0 27 (.pointer (some ⟨B, 0, none⟩)) hD.out hS0 ?_; go_frame
                    refine tr8 1 28 (.int .i64 hx) hD.out hS0 ?_; go_frame
                    refine held_call (i := 2) (dst := some 29) rfl rfl (by kernel_rfl) rfl (by go_simp) (hct.out _) ?_
                    rintro e u1 ⟨rfl, hb1⟩
                    have hS1 := hb1 ▸ hS0
                    refine ⟨_, rfl, hS1, ?_⟩
                    go_frame
                    refine tr8 3 30 (.bool false) hD.out hS1 ?_; go_frame
                    refine tm 4 31 30 (.bool false) hS1 ?_; go_frame
                    refine held_tk (i := 5) (dst := some 32) rfl rfl (y_move (.tmp 3) rfl rfl rfl) hS1 ?_
                    go_frame
                    refine tr8 6 33 (.bool true) hD.out hS1 ?_; go_frame
                    refine tm 7 34 33 (.bool true) hS1 ?_; go_frame
                    refine tr8 8 35 (.pointer (some ⟨w.heap.size, 3, none⟩)) hD.out hS1 ?_; go_frame
                    refine tr8 9 36 (.slice (some A) hn hc) hD.out hS1 ?_; go_frame
                    refine held_tk (i := 10) (dst := some 37) rfl rfl (y_move (.tmp 3) rfl rfl rfl) hS1 ?_
                    go_frame
                    refine tr8 11 38 (.int .i64 (m : Int)) hD.out hS1 ?_; go_frame
                    refine tr8 12 39 (.pointer (some (A.add (m * 2)))) hD.out hS1 ?_; go_frame
                    refine tr8 13 40 (.pointer (some (A.add (m * 2)))) hD.out hS1 ?_; go_frame
                    refine tr8 14 41 (.int .i64 px) hD.out hS1 ?_; go_frame
                    refine tr8 15 42 (.pointer (some ⟨B, 0, none⟩)) hD.out hS1 ?_; go_frame
                    refine tr8 16 43 (.int .i64 hx) hD.out hS1 ?_; go_frame
                    refine tr8 17 44 (.bool false) hD.out hS1 ?_; go_frame
                    refine tr8 18 45 (.bool false) hD.out hS1 ?_; go_frame
                    refine tr8 19 46 (.bool false) hD.out hS1 ?_; go_frame
                    refine tm 20 47 46 (.bool false) hS1 ?_; go_frame
                    refine tr8 21 48 (.pointer (some ⟨w.heap.size, 0, none⟩)) hD.out hS1 ?_; go_frame
                    refine tr8 22 49 (.agg #[.int .i64 t, .bool k, .int .u16 id]) hD.out hS1 ?_; go_frame
                    refine tr8 23 50 (.pointer (some ⟨B, 1, none⟩)) hD.out hS1 ?_; go_frame
                    refine tr8 24 51 (.int .i64 hm) hD.out hS1 ?_; go_frame
                    refine held_call (i := 25) (dst := some 52) rfl rfl (by kernel_rfl) rfl (by go_simp) (hcm.out _) ?_
                    rintro e u2 ⟨rfl, hb2⟩
                    have hS2 := below_step hb2 hS1
                    refine ⟨_, rfl, hS2, ?_⟩
                    go_frame
                    refine tr8 26 53 (.bool false) hD.out hS2 ?_; go_frame
                    refine tr8 27 54 (.bool false) hD.out hS2 ?_; go_frame
                    refine tm 28 55 54 (.bool false) hS2 ?_; go_frame
                    refine tr8 29 56 (.agg #[.int .i64 t, .bool k, .int .u16 id, .slice (some A) hn hc, .slice wq wn wc]) hD.out hS2 ?_; go_frame
                    refine tr8 30 57 (.pointer (some ⟨B, 0, none⟩)) hD.out hS2 ?_; go_frame
                    refine tr8 31 58 (.int .i64 hx) hD.out hS2 ?_; go_frame
                    refine tr8 32 59 (.pointer (some ⟨B, 1, none⟩)) hD.out hS2 ?_; go_frame
                    refine tr8 33 60 (.int .i64 hm) hD.out hS2 ?_; go_frame
                    refine held_call (i := 34) (dst := some 61) rfl rfl (by kernel_rfl) rfl (by go_simp) (hcg.out _ hS2) ?_
                    rintro e u3 ⟨rfl, hb3⟩
                    have hS3 := below_step hb3 hS2
                    refine ⟨_, rfl, hS3, ?_⟩
                    go_frame
                    refine tr8 35 62 (.bool true) hD.out hS3 ?_; go_frame
                    refine tr8 36 63 (.bool true) hD.out hS3 ?_; go_frame
                    refine wpAnyH_done (by kernel_rfl) ?_ _
                    have hS9 := Lib.hid (below_step (below_step hS3 hBA.out) hbx.out.1)
                    go_wp2
                    go_ret
                    exact ⟨ret_b hfin.out.symm, hS9.out⟩
                  | true =>
                    obtain ⟨hr2, hgf2⟩ := hst hmb'.out hgb'.out
                    have hD : Hid (∀ u, Below WA.heap.size WA u → u.cell? ⟨B, 0, none⟩ = some (.int .i64 hx) ∧ u.cell? ⟨B, 1, none⟩ = some (.int .i64 hm) ∧ u.cell? ⟨w.heap.size, 0, none⟩ = some (.int .i64 t) ∧ u.cell? ⟨w.heap.size, 1, none⟩ = some (.bool k) ∧ u.cell? ⟨w.heap.size, 2, none⟩ = some (.int .u16 id) ∧ u.cell? ⟨w.heap.size, 3, none⟩ = some (.slice (some A) hn hc) ∧ u.cell? ⟨w.heap.size, 4, none⟩ = some (.slice wq wn wc) ∧ u.cell? (A.add (m * 2)) = some (.int .i64 px)) := fun u hu => ⟨(hbB.out.below hu (Nat.le_refl _)).cell 0 rfl, (hbB.out.below hu (Nat.le_refl _)).cell 1 rfl, (hqx.out.below hu (Nat.le_refl _)).cell 0 rfl, (hqx.out.below hu (Nat.le_refl _)).cell 1 rfl, (hqx.out.below hu (Nat.le_refl _)).cell 2 rfl, (hqx.out.below hu (Nat.le_refl _)).cell 3 rfl, (hqx.out.below hu (Nat.le_refl _)).cell 4 rfl, hcy'.out _ hu⟩
                    refine wp_region_held (S := fun u => Below WA.heap.size WA u) (by kernel_rfl) ?_
                    change wpAnyH _ _ _ _ _ _ _ _ (World.drew WA)
                    have hS0 : Below WA.heap.size WA WA.drew := below_drew _
                    refine tr8 0 27 (.pointer (some ⟨B, 0, none⟩)) hD.out hS0 ?_; go_frame
                    refine tr8 1 28 (.int .i64 hx) hD.out hS0 ?_; go_frame
                    refine held_call (i := 2) (dst := some 29) rfl rfl (by kernel_rfl) rfl (by go_simp) (hct.out _) ?_
                    rintro e u1 ⟨rfl, hb1⟩
                    have hS1 := hb1 ▸ hS0
                    refine ⟨_, rfl, hS1, ?_⟩
                    go_frame
                    refine tr8 3 30 (.bool false) hD.out hS1 ?_; go_frame
                    refine tm 4 31 30 (.bool false) hS1 ?_; go_frame
                    refine held_tk (i := 5) (dst := some 32) rfl rfl (y_move (.tmp 3) rfl rfl rfl) hS1 ?_
                    go_frame
                    refine tr8 6 33 (.bool true) hD.out hS1 ?_; go_frame
                    refine tm 7 34 33 (.bool true) hS1 ?_; go_frame
                    refine tr8 8 35 (.pointer (some ⟨w.heap.size, 3, none⟩)) hD.out hS1 ?_; go_frame
                    refine tr8 9 36 (.slice (some A) hn hc) hD.out hS1 ?_; go_frame
                    refine held_tk (i := 10) (dst := some 37) rfl rfl (y_move (.tmp 3) rfl rfl rfl) hS1 ?_
                    go_frame
                    refine tr8 11 38 (.int .i64 (m : Int)) hD.out hS1 ?_; go_frame
                    refine tr8 12 39 (.pointer (some (A.add (m * 2)))) hD.out hS1 ?_; go_frame
                    refine tr8 13 40 (.pointer (some (A.add (m * 2)))) hD.out hS1 ?_; go_frame
                    refine tr8 14 41 (.int .i64 px) hD.out hS1 ?_; go_frame
                    refine tr8 15 42 (.pointer (some ⟨B, 0, none⟩)) hD.out hS1 ?_; go_frame
                    refine tr8 16 43 (.int .i64 hx) hD.out hS1 ?_; go_frame
                    refine tr8 17 44 (.bool false) hD.out hS1 ?_; go_frame
                    refine tr8 18 45 (.bool false) hD.out hS1 ?_; go_frame
                    refine tr8 19 46 (.bool false) hD.out hS1 ?_; go_frame
                    refine tm 20 47 46 (.bool false) hS1 ?_; go_frame
                    refine tr8 21 48 (.pointer (some ⟨w.heap.size, 0, none⟩)) hD.out hS1 ?_; go_frame
                    refine tr8 22 49 (.agg #[.int .i64 t, .bool k, .int .u16 id]) hD.out hS1 ?_; go_frame
                    refine tr8 23 50 (.pointer (some ⟨B, 1, none⟩)) hD.out hS1 ?_; go_frame
                    refine tr8 24 51 (.int .i64 hm) hD.out hS1 ?_; go_frame
                    refine held_call (i := 25) (dst := some 52) rfl rfl (by kernel_rfl) rfl (by go_simp) (hcm.out _) ?_
                    rintro e u2 ⟨rfl, hb2⟩
                    have hS2 := below_step hb2 hS1
                    refine ⟨_, rfl, hS2, ?_⟩
                    go_frame
                    refine tr8 26 53 (.bool false) hD.out hS2 ?_; go_frame
                    refine tr8 27 54 (.bool false) hD.out hS2 ?_; go_frame
                    refine tm 28 55 54 (.bool false) hS2 ?_; go_frame
                    refine tr8 29 56 (.agg #[.int .i64 t, .bool k, .int .u16 id, .slice (some A) hn hc, .slice wq wn wc]) hD.out hS2 ?_; go_frame
                    refine tr8 30 57 (.pointer (some ⟨B, 0, none⟩)) hD.out hS2 ?_; go_frame
                    refine tr8 31 58 (.int .i64 hx) hD.out hS2 ?_; go_frame
                    refine tr8 32 59 (.pointer (some ⟨B, 1, none⟩)) hD.out hS2 ?_; go_frame
                    refine tr8 33 60 (.int .i64 hm) hD.out hS2 ?_; go_frame
                    refine held_call (i := 34) (dst := some 61) rfl rfl (by kernel_rfl) rfl (by go_simp) (hcg.out _ hS2) ?_
                    rintro e u3 ⟨rfl, hb3⟩
                    have hS3 := below_step hb3 hS2
                    refine ⟨_, rfl, hS3, ?_⟩
                    go_frame
                    refine tr8 35 62 (.bool false) hD.out hS3 ?_; go_frame
                    refine tr8 36 63 (.bool false) hD.out hS3 ?_; go_frame
                    refine wpAnyH_done (by kernel_rfl) ?_ _
                    have hS9 := Lib.hid (below_step hS3 hBA.out)
                    go_wp2
                    go_roundw
                    case rel => exact ⟨m + 1 + 1, by omega, by go_num, hS9.out, hr2.out, hgf2⟩
                    case measure => simp [intOf]; omega
        · obtain rfl : hn = K := by omega
          have hfit : Hid (HsFit k hs) := by
            have h1 : SortH hs := hf_sort hr.out hl1.out
            exact hr.out.done hl1.out hzn.out (tog_of h1 (fun i a ha => hgf.out i a (by have := (List.getElem?_eq_some_iff.1 ha).1; have := hl1.out; omega) ha))
          have q4 := (hbx.out.2.1.below hbr.out (Nat.le_refl _)).cell 4 rfl
          go_wp2
          clear q4
          go_loopw [68] (fun v68 wr => ∃ K : Nat, K ≤ wn ∧ v68 = .int .i64 K ∧ Hid (Below W.heap.size W wr) ∧ Hid (WnR k hs ws K)) (fun v68 _ => wn - (intOf v68).toNat)
          case atStart => exact ⟨0, Nat.zero_le _, rfl, hbr.out, WfR.start k hs ws, fun i j a b hi => by omega⟩
          case round =>
            obtain ⟨K, hK, rfl, hbr, hr⟩ := hrel
            obtain ⟨wo, rfl⟩ : ∃ u, u = wr := ⟨_, rfl⟩
            by_cases hlt : K < wn
            · obtain ⟨A, ⟨ax, am, ah⟩, hqA, hx, hcA⟩ := (hwo.out.below hbr.out (Nat.le_refl _)).at hlt
              subst hqA
              have hcell : Hid (∀ j' v, ([.int .i64 ax, .int .i64 am, .int .i64 ah] : List Value)[j']? = some v → wo.cell? ((A.add (K * 3)).add j') = some v) := fun j' v hj => hcA j' v hj
              have hs2 := sizeWait (.int .i64 ax) (.int .i64 am) (.int .i64 ah)
              have hx' := Lib.hid hx
              have i0 : (0 : Int) ≤ K := by omega
              have i1 : (K : Int) < wn := by omega
              obtain ⟨WA, hWA⟩ : ∃ W', wo.alloc (.cells #[.int .i64 ax, .int .i64 am, .int .i64 ah] 47) = W' := ⟨_, rfl⟩
              have hbA := Lib.hid (one_box (xs := [.int .i64 ax, .int .i64 am, .int .i64 ah]) hWA)
              have hBA := Lib.hid (below_step hbA.out.1 hbr.out)
              have hqx := Lib.hid (hbx.out.2.1.below hBA.out (Nat.le_refl _))
              have hhA := Lib.hid (hho.out.below hBA.out (Nat.le_refl _))
              have hwA := Lib.hid (hwo.out.below hBA.out (Nat.le_refl _))
              obtain ⟨B, hB⟩ : ∃ B, wo.heap.size = B := ⟨_, rfl⟩
              have hbB : Hid (Boxed WA B [.int .i64 ax, .int .i64 am, .int .i64 ah]) := by have h := hbA.out.2.1; rw [hB] at h; exact h
              obtain ⟨tb, htb⟩ : ∃ tb, txnB ax = tb := ⟨_, rfl⟩
              obtain ⟨mb, hmb⟩ : ∃ mb, modB k am = mb := ⟨_, rfl⟩
              obtain ⟨R, hR⟩ : ∃ R, heldF hs ax = R := ⟨_, rfl⟩
              obtain ⟨cb, hcb⟩ : ∃ cb, covB ah am = cb := ⟨_, rfl⟩
              obtain ⟨cd, hcd⟩ : ∃ cd, covB am ah = cd := ⟨_, rfl⟩
              have hct := Lib.hid (fun u => rtxn_any ax u tb htb)
              have hcm := Lib.hid (fun u => rmode_any t k id am u mb hmb)
              have hch := Lib.hid (fun u hu => rheld_any t k id hq hn hc (some A) wn wc hs ax R u (hhA.out.below (B := WA.heap.size) hu (Nat.le_refl _)) hR)
              have hc1 := Lib.hid (fun u => rcov_any ah am u cb hcb)
              have hc2 := Lib.hid (fun u => rcov_any am ah u cd hcd)
              have htb' := Lib.hid htb
              have hmb' := Lib.hid hmb
              have hR' : Hid (heldH hs ax = R) := by show _ = _; rw [← heldF_eq hfit.out.sort]; exact hR
              have hcb' := Lib.hid hcb
              have hcd' := Lib.hid hcd
              clear htb hmb hR hcb hcd hx hcA
              go_wp2_with (first
                | (with_reducible refine wpList_load_at rfl 47 (.tmp 71) rfl Tryz.underlying47 rfl hs2 rfl hcell.out ?_))
              clear hWA hB
              cases tb with
              | false =>
                have hfin : Hid (b = false) := no_b hb'.out (fun f => by have h := (f.1.ws.at hx'.out).1; have h2 := htb'.out; simp only at h; rw [h2] at h; cases h)
                have d0 := hbB.out.cell 0 rfl
                go_quiet (first | (go_at_call 74; refine Calls.quiet_of_same (hct.out _)))
                clear d0
                go_wp2
                go_ret
                exact ⟨ret_b hfin.out.symm, below_step (hBA.out.trans ((below_drewN _ _).mono hBA.out.size)) hbx.out.1⟩
              | true =>
                cases mb with
                | false =>
                  have hfin : Hid (b = false) := no_b hb'.out (fun f => by have h := (f.1.ws.at hx'.out).2.1; have h2 := hmb'.out; simp only at h; rw [h2] at h; cases h)
                  have hD : Hid (∀ u, Below WA.heap.size WA u → u.cell? ⟨B, 0, none⟩ = some (.int .i64 ax) ∧ u.cell? ⟨B, 1, none⟩ = some (.int .i64 am) ∧ u.cell? ⟨B, 2, none⟩ = some (.int .i64 ah) ∧ u.cell? ⟨w.heap.size, 0, none⟩ = some (.int .i64 t) ∧ u.cell? ⟨w.heap.size, 1, none⟩ = some (.bool k) ∧ u.cell? ⟨w.heap.size, 2, none⟩ = some (.int .u16 id) ∧ u.cell? ⟨w.heap.size, 3, none⟩ = some (.slice hq hn hc) ∧ u.cell? ⟨w.heap.size, 4, none⟩ = some (.slice (some A) wn wc)) := fun u hu => ⟨(hbB.out.below hu (Nat.le_refl _)).cell 0 rfl, (hbB.out.below hu (Nat.le_refl _)).cell 1 rfl, (hbB.out.below hu (Nat.le_refl _)).cell 2 rfl, (hqx.out.below hu (Nat.le_refl _)).cell 0 rfl, (hqx.out.below hu (Nat.le_refl _)).cell 1 rfl, (hqx.out.below hu (Nat.le_refl _)).cell 2 rfl, (hqx.out.below hu (Nat.le_refl _)).cell 3 rfl, (hqx.out.below hu (Nat.le_refl _)).cell 4 rfl⟩
                  refine wp_region_held (S := fun u => Below WA.heap.size WA u) (by kernel_rfl) ?_
                  change wpAnyH _ _ _ _ _ _ _ _ (World.drew WA)
                  have hS0 : Below WA.heap.size WA WA.drew := below_drew _
                  refine tr8 0 73 (.pointer (some ⟨B, 0, none⟩)) hD.out hS0 ?_; go_frame
                  refine tr8 1 74 (.int .i64 ax) hD.out hS0 ?_; go_frame
                  refine held_call (i := 2) (dst := some 75) rfl rfl (by kernel_rfl) rfl (by go_simp) (hct.out _) ?_
                  rintro e u1 ⟨rfl, hb1⟩
                  have hS1 := hb1 ▸ hS0
                  refine ⟨_, rfl, hS1, ?_⟩
                  go_frame
                  refine tr8 3 76 (.bool false) hD.out hS1 ?_; go_frame
                  refine tm 4 77 76 (.bool false) hS1 ?_; go_frame
                  refine tr8 5 78 (.pointer (some ⟨w.heap.size, 0, none⟩)) hD.out hS1 ?_; go_frame
                  refine tr8 6 79 (.agg #[.int .i64 t, .bool k, .int .u16 id]) hD.out hS1 ?_; go_frame
                  refine tr8 7 80 (.pointer (some ⟨B, 1, none⟩)) hD.out hS1 ?_; go_frame
                  refine tr8 8 81 (.int .i64 am) hD.out hS1 ?_; go_frame
                  refine held_call (i := 9) (dst := some 82) rfl rfl (by kernel_rfl) rfl (by go_simp) (hcm.out _) ?_
                  rintro e u2 ⟨rfl, hb2⟩
                  have hS2 := below_step hb2 hS1
                  refine ⟨_, rfl, hS2, ?_⟩
                  go_frame
                  refine tr8 10 83 (.bool true) hD.out hS2 ?_; go_frame
                  refine tr8 11 84 (.bool true) hD.out hS2 ?_; go_frame
                  refine tm 12 85 84 (.bool true) hS2 ?_; go_frame
                  refine tu 13 86 hS2 ?_; go_frame
                  refine tu 14 87 hS2 ?_; go_frame
                  refine tu 15 88 hS2 ?_; go_frame
                  refine tu 16 89 hS2 ?_; go_frame
                  refine tu 17 90 hS2 ?_; go_frame
                  refine tu 18 91 hS2 ?_; go_frame
                  refine tu 19 92 hS2 ?_; go_frame
                  refine tr8 20 93 (.bool true) hD.out hS2 ?_; go_frame
                  refine tm 21 94 93 (.bool true) hS2 ?_; go_frame
                  refine tu 22 95 hS2 ?_; go_frame
                  refine tu 23 96 hS2 ?_; go_frame
                  refine tu 24 97 hS2 ?_; go_frame
                  refine tu 25 98 hS2 ?_; go_frame
                  refine tu 26 99 hS2 ?_; go_frame
                  refine tr8 27 100 (.bool true) hD.out hS2 ?_; go_frame
                  refine tm 28 101 100 (.bool true) hS2 ?_; go_frame
                  refine tu 29 102 hS2 ?_; go_frame
                  refine tu 30 103 hS2 ?_; go_frame
                  refine tu 31 104 hS2 ?_; go_frame
                  refine tu 32 105 hS2 ?_; go_frame
                  refine tu 33 106 hS2 ?_; go_frame
                  refine tu 34 107 hS2 ?_; go_frame
                  refine tr8 35 108 (.bool true) hD.out hS2 ?_; go_frame
                  refine wpAnyH_done (by kernel_rfl) ?_ _
                  have hS9 := Lib.hid (below_step (below_step hS2 hBA.out) hbx.out.1)
                  go_wp2
                  go_ret
                  exact ⟨ret_b hfin.out.symm, hS9.out⟩
                | true =>
                  by_cases hne : ah = R
                  · subst hne
                    cases cb with
                    | true =>
                      have hfin : Hid (b = false) := no_b hb'.out (fun f => by have h := (f.1.ws.at hx'.out).2.2.2.1; have h2 := hcb'.out; simp only at h; rw [h2] at h; cases h)
                      have hD : Hid (∀ u, Below WA.heap.size WA u → u.cell? ⟨B, 0, none⟩ = some (.int .i64 ax) ∧ u.cell? ⟨B, 1, none⟩ = some (.int .i64 am) ∧ u.cell? ⟨B, 2, none⟩ = some (.int .i64 ah) ∧ u.cell? ⟨w.heap.size, 0, none⟩ = some (.int .i64 t) ∧ u.cell? ⟨w.heap.size, 1, none⟩ = some (.bool k) ∧ u.cell? ⟨w.heap.size, 2, none⟩ = some (.int .u16 id) ∧ u.cell? ⟨w.heap.size, 3, none⟩ = some (.slice hq hn hc) ∧ u.cell? ⟨w.heap.size, 4, none⟩ = some (.slice (some A) wn wc)) := fun u hu => ⟨(hbB.out.below hu (Nat.le_refl _)).cell 0 rfl, (hbB.out.below hu (Nat.le_refl _)).cell 1 rfl, (hbB.out.below hu (Nat.le_refl _)).cell 2 rfl, (hqx.out.below hu (Nat.le_refl _)).cell 0 rfl, (hqx.out.below hu (Nat.le_refl _)).cell 1 rfl, (hqx.out.below hu (Nat.le_refl _)).cell 2 rfl, (hqx.out.below hu (Nat.le_refl _)).cell 3 rfl, (hqx.out.below hu (Nat.le_refl _)).cell 4 rfl⟩
                      refine wp_region_held (S := fun u => Below WA.heap.size WA u) (by kernel_rfl) ?_
                      change wpAnyH _ _ _ _ _ _ _ _ (World.drew WA)
                      have hS0 : Below WA.heap.size WA WA.drew := below_drew _
                      refine tr8 0 73 (.pointer (some ⟨B, 0, none⟩)) hD.out hS0 ?_; go_frame
                      refine tr8 1 74 (.int .i64 ax) hD.out hS0 ?_; go_frame
                      refine held_call (i := 2) (dst := some 75) rfl rfl (by kernel_rfl) rfl (by go_simp) (hct.out _) ?_
                      rintro e u1 ⟨rfl, hb1⟩
                      have hS1 := hb1 ▸ hS0
                      refine ⟨_, rfl, hS1, ?_⟩
                      go_frame
                      refine tr8 3 76 (.bool false) hD.out hS1 ?_; go_frame
                      refine tm 4 77 76 (.bool false) hS1 ?_; go_frame
                      refine tr8 5 78 (.pointer (some ⟨w.heap.size, 0, none⟩)) hD.out hS1 ?_; go_frame
                      refine tr8 6 79 (.agg #[.int .i64 t, .bool k, .int .u16 id]) hD.out hS1 ?_; go_frame
                      refine tr8 7 80 (.pointer (some ⟨B, 1, none⟩)) hD.out hS1 ?_; go_frame
                      refine tr8 8 81 (.int .i64 am) hD.out hS1 ?_; go_frame
                      refine held_call (i := 9) (dst := some 82) rfl rfl (by kernel_rfl) rfl (by go_simp) (hcm.out _) ?_
                      rintro e u2 ⟨rfl, hb2⟩
                      have hS2 := below_step hb2 hS1
                      refine ⟨_, rfl, hS2, ?_⟩
                      go_frame
                      refine tr8 10 83 (.bool false) hD.out hS2 ?_; go_frame
                      refine tr8 11 84 (.bool false) hD.out hS2 ?_; go_frame
                      refine tm 12 85 84 (.bool false) hS2 ?_; go_frame
                      refine tr8 13 86 (.pointer (some ⟨B, 2, none⟩)) hD.out hS2 ?_; go_frame
                      refine tr8 14 87 (.int .i64 ah) hD.out hS2 ?_; go_frame
                      refine tr8 15 88 (.agg #[.int .i64 t, .bool k, .int .u16 id, .slice hq hn hc, .slice (some A) wn wc]) hD.out hS2 ?_; go_frame
                      refine tr8 16 89 (.pointer (some ⟨B, 0, none⟩)) hD.out hS2 ?_; go_frame
                      refine tr8 17 90 (.int .i64 ax) hD.out hS2 ?_; go_frame
                      refine held_call (i := 18) (dst := some 91) rfl rfl (by kernel_rfl) rfl (by go_simp) (hch.out _ hS2) ?_
                      rintro e u3 ⟨rfl, hb3⟩
                      have hS3 := below_step hb3 hS2
                      refine ⟨_, rfl, hS3, ?_⟩
                      go_frame
                      refine tr8 19 92 (.bool false) hD.out hS3 ?_; go_frame
                      refine tr8 20 93 (.bool false) hD.out hS3 ?_; go_frame
                      refine tm 21 94 93 (.bool false) hS3 ?_; go_frame
                      refine tr8 22 95 (.pointer (some ⟨B, 2, none⟩)) hD.out hS3 ?_; go_frame
                      refine tr8 23 96 (.int .i64 ah) hD.out hS3 ?_; go_frame
                      refine tr8 24 97 (.pointer (some ⟨B, 1, none⟩)) hD.out hS3 ?_; go_frame
                      refine tr8 25 98 (.int .i64 am) hD.out hS3 ?_; go_frame
                      refine held_call (i := 26) (dst := some 99) rfl rfl (by kernel_rfl) rfl (by go_simp) (hc1.out _) ?_
                      rintro e u4 ⟨rfl, hb4⟩
                      have hS4 := hb4 ▸ hS3
                      refine ⟨_, rfl, hS4, ?_⟩
                      go_frame
                      refine tr8 27 100 (.bool true) hD.out hS4 ?_; go_frame
                      refine tm 28 101 100 (.bool true) hS4 ?_; go_frame
                      refine tu 29 102 hS4 ?_; go_frame
                      refine tu 30 103 hS4 ?_; go_frame
                      refine tu 31 104 hS4 ?_; go_frame
                      refine tu 32 105 hS4 ?_; go_frame
                      refine tu 33 106 hS4 ?_; go_frame
                      refine tu 34 107 hS4 ?_; go_frame
                      refine tr8 35 108 (.bool true) hD.out hS4 ?_; go_frame
                      refine wpAnyH_done (by kernel_rfl) ?_ _
                      have hS9 := Lib.hid (below_step (below_step hS4 hBA.out) hbx.out.1)
                      go_wp2
                      go_ret
                      exact ⟨ret_b hfin.out.symm, hS9.out⟩
                    | false =>
                      cases cd with
                      | false =>
                        have hfin : Hid (b = false) := no_b hb'.out (fun f => by have h := (f.1.ws.at hx'.out).2.2.2.2; have h2 := hcd'.out; simp only at h; rw [h2] at h; cases h)
                        have hD : Hid (∀ u, Below WA.heap.size WA u → u.cell? ⟨B, 0, none⟩ = some (.int .i64 ax) ∧ u.cell? ⟨B, 1, none⟩ = some (.int .i64 am) ∧ u.cell? ⟨B, 2, none⟩ = some (.int .i64 ah) ∧ u.cell? ⟨w.heap.size, 0, none⟩ = some (.int .i64 t) ∧ u.cell? ⟨w.heap.size, 1, none⟩ = some (.bool k) ∧ u.cell? ⟨w.heap.size, 2, none⟩ = some (.int .u16 id) ∧ u.cell? ⟨w.heap.size, 3, none⟩ = some (.slice hq hn hc) ∧ u.cell? ⟨w.heap.size, 4, none⟩ = some (.slice (some A) wn wc)) := fun u hu => ⟨(hbB.out.below hu (Nat.le_refl _)).cell 0 rfl, (hbB.out.below hu (Nat.le_refl _)).cell 1 rfl, (hbB.out.below hu (Nat.le_refl _)).cell 2 rfl, (hqx.out.below hu (Nat.le_refl _)).cell 0 rfl, (hqx.out.below hu (Nat.le_refl _)).cell 1 rfl, (hqx.out.below hu (Nat.le_refl _)).cell 2 rfl, (hqx.out.below hu (Nat.le_refl _)).cell 3 rfl, (hqx.out.below hu (Nat.le_refl _)).cell 4 rfl⟩
                        refine wp_region_held (S := fun u => Below WA.heap.size WA u) (by kernel_rfl) ?_
                        change wpAnyH _ _ _ _ _ _ _ _ (World.drew WA)
                        have hS0 : Below WA.heap.size WA WA.drew := below_drew _
                        refine tr8 0 73 (.pointer (some ⟨B, 0, none⟩)) hD.out hS0 ?_; go_frame
                        refine tr8 1 74 (.int .i64 ax) hD.out hS0 ?_; go_frame
                        refine held_call (i := 2) (dst := some 75) rfl rfl (by kernel_rfl) rfl (by go_simp) (hct.out _) ?_
                        rintro e u1 ⟨rfl, hb1⟩
                        have hS1 := hb1 ▸ hS0
                        refine ⟨_, rfl, hS1, ?_⟩
                        go_frame
                        refine tr8 3 76 (.bool false) hD.out hS1 ?_; go_frame
                        refine tm 4 77 76 (.bool false) hS1 ?_; go_frame
                        refine tr8 5 78 (.pointer (some ⟨w.heap.size, 0, none⟩)) hD.out hS1 ?_; go_frame
                        refine tr8 6 79 (.agg #[.int .i64 t, .bool k, .int .u16 id]) hD.out hS1 ?_; go_frame
                        refine tr8 7 80 (.pointer (some ⟨B, 1, none⟩)) hD.out hS1 ?_; go_frame
                        refine tr8 8 81 (.int .i64 am) hD.out hS1 ?_; go_frame
                        refine held_call (i := 9) (dst := some 82) rfl rfl (by kernel_rfl) rfl (by go_simp) (hcm.out _) ?_
                        rintro e u2 ⟨rfl, hb2⟩
                        have hS2 := below_step hb2 hS1
                        refine ⟨_, rfl, hS2, ?_⟩
                        go_frame
                        refine tr8 10 83 (.bool false) hD.out hS2 ?_; go_frame
                        refine tr8 11 84 (.bool false) hD.out hS2 ?_; go_frame
                        refine tm 12 85 84 (.bool false) hS2 ?_; go_frame
                        refine tr8 13 86 (.pointer (some ⟨B, 2, none⟩)) hD.out hS2 ?_; go_frame
                        refine tr8 14 87 (.int .i64 ah) hD.out hS2 ?_; go_frame
                        refine tr8 15 88 (.agg #[.int .i64 t, .bool k, .int .u16 id, .slice hq hn hc, .slice (some A) wn wc]) hD.out hS2 ?_; go_frame
                        refine tr8 16 89 (.pointer (some ⟨B, 0, none⟩)) hD.out hS2 ?_; go_frame
                        refine tr8 17 90 (.int .i64 ax) hD.out hS2 ?_; go_frame
                        refine held_call (i := 18) (dst := some 91) rfl rfl (by kernel_rfl) rfl (by go_simp) (hch.out _ hS2) ?_
                        rintro e u3 ⟨rfl, hb3⟩
                        have hS3 := below_step hb3 hS2
                        refine ⟨_, rfl, hS3, ?_⟩
                        go_frame
                        refine tr8 19 92 (.bool false) hD.out hS3 ?_; go_frame
                        refine tr8 20 93 (.bool false) hD.out hS3 ?_; go_frame
                        refine tm 21 94 93 (.bool false) hS3 ?_; go_frame
                        refine tr8 22 95 (.pointer (some ⟨B, 2, none⟩)) hD.out hS3 ?_; go_frame
                        refine tr8 23 96 (.int .i64 ah) hD.out hS3 ?_; go_frame
                        refine tr8 24 97 (.pointer (some ⟨B, 1, none⟩)) hD.out hS3 ?_; go_frame
                        refine tr8 25 98 (.int .i64 am) hD.out hS3 ?_; go_frame
                        refine held_call (i := 26) (dst := some 99) rfl rfl (by kernel_rfl) rfl (by go_simp) (hc1.out _) ?_
                        rintro e u4 ⟨rfl, hb4⟩
                        have hS4 := hb4 ▸ hS3
                        refine ⟨_, rfl, hS4, ?_⟩
                        go_frame
                        refine tr8 27 100 (.bool false) hD.out hS4 ?_; go_frame
                        refine tm 28 101 100 (.bool false) hS4 ?_; go_frame
                        refine tr8 29 102 (.pointer (some ⟨B, 1, none⟩)) hD.out hS4 ?_; go_frame
                        refine tr8 30 103 (.int .i64 am) hD.out hS4 ?_; go_frame
                        refine tr8 31 104 (.pointer (some ⟨B, 2, none⟩)) hD.out hS4 ?_; go_frame
                        refine tr8 32 105 (.int .i64 ah) hD.out hS4 ?_; go_frame
                        refine held_call (i := 33) (dst := some 106) rfl rfl (by kernel_rfl) rfl (by go_simp) (hc2.out _) ?_
                        rintro e u5 ⟨rfl, hb5⟩
                        have hS5 := hb5 ▸ hS4
                        refine ⟨_, rfl, hS5, ?_⟩
                        go_frame
                        refine tr8 34 107 (.bool true) hD.out hS5 ?_; go_frame
                        refine tr8 35 108 (.bool true) hD.out hS5 ?_; go_frame
                        refine wpAnyH_done (by kernel_rfl) ?_ _
                        have hS9 := Lib.hid (below_step (below_step hS5 hBA.out) hbx.out.1)
                        go_wp2
                        go_ret
                        exact ⟨ret_b hfin.out.symm, hS9.out⟩
                      | true =>
                        have hD : Hid (∀ u, Below WA.heap.size WA u → u.cell? ⟨B, 0, none⟩ = some (.int .i64 ax) ∧ u.cell? ⟨B, 1, none⟩ = some (.int .i64 am) ∧ u.cell? ⟨B, 2, none⟩ = some (.int .i64 ah) ∧ u.cell? ⟨w.heap.size, 0, none⟩ = some (.int .i64 t) ∧ u.cell? ⟨w.heap.size, 1, none⟩ = some (.bool k) ∧ u.cell? ⟨w.heap.size, 2, none⟩ = some (.int .u16 id) ∧ u.cell? ⟨w.heap.size, 3, none⟩ = some (.slice hq hn hc) ∧ u.cell? ⟨w.heap.size, 4, none⟩ = some (.slice (some A) wn wc)) := fun u hu => ⟨(hbB.out.below hu (Nat.le_refl _)).cell 0 rfl, (hbB.out.below hu (Nat.le_refl _)).cell 1 rfl, (hbB.out.below hu (Nat.le_refl _)).cell 2 rfl, (hqx.out.below hu (Nat.le_refl _)).cell 0 rfl, (hqx.out.below hu (Nat.le_refl _)).cell 1 rfl, (hqx.out.below hu (Nat.le_refl _)).cell 2 rfl, (hqx.out.below hu (Nat.le_refl _)).cell 3 rfl, (hqx.out.below hu (Nat.le_refl _)).cell 4 rfl⟩
                        refine wp_region_held (S := fun u => Below WA.heap.size WA u) (by kernel_rfl) ?_
                        change wpAnyH _ _ _ _ _ _ _ _ (World.drew WA)
                        have hS0 : Below WA.heap.size WA WA.drew := below_drew _
                        refine tr8 0 73 (.pointer (some ⟨B, 0, none⟩)) hD.out hS0 ?_; go_frame
                        refine tr8 1 74 (.int .i64 ax) hD.out hS0 ?_; go_frame
                        refine held_call (i := 2) (dst := some 75) rfl rfl (by kernel_rfl) rfl (by go_simp) (hct.out _) ?_
                        rintro e u1 ⟨rfl, hb1⟩
                        have hS1 := hb1 ▸ hS0
                        refine ⟨_, rfl, hS1, ?_⟩
                        go_frame
                        refine tr8 3 76 (.bool false) hD.out hS1 ?_; go_frame
                        refine tm 4 77 76 (.bool false) hS1 ?_; go_frame
                        refine tr8 5 78 (.pointer (some ⟨w.heap.size, 0, none⟩)) hD.out hS1 ?_; go_frame
                        refine tr8 6 79 (.agg #[.int .i64 t, .bool k, .int .u16 id]) hD.out hS1 ?_; go_frame
                        refine tr8 7 80 (.pointer (some ⟨B, 1, none⟩)) hD.out hS1 ?_; go_frame
                        refine tr8 8 81 (.int .i64 am) hD.out hS1 ?_; go_frame
                        refine held_call (i := 9) (dst := some 82) rfl rfl (by kernel_rfl) rfl (by go_simp) (hcm.out _) ?_
                        rintro e u2 ⟨rfl, hb2⟩
                        have hS2 := below_step hb2 hS1
                        refine ⟨_, rfl, hS2, ?_⟩
                        go_frame
                        refine tr8 10 83 (.bool false) hD.out hS2 ?_; go_frame
                        refine tr8 11 84 (.bool false) hD.out hS2 ?_; go_frame
                        refine tm 12 85 84 (.bool false) hS2 ?_; go_frame
                        refine tr8 13 86 (.pointer (some ⟨B, 2, none⟩)) hD.out hS2 ?_; go_frame
                        refine tr8 14 87 (.int .i64 ah) hD.out hS2 ?_; go_frame
                        refine tr8 15 88 (.agg #[.int .i64 t, .bool k, .int .u16 id, .slice hq hn hc, .slice (some A) wn wc]) hD.out hS2 ?_; go_frame
                        refine tr8 16 89 (.pointer (some ⟨B, 0, none⟩)) hD.out hS2 ?_; go_frame
                        refine tr8 17 90 (.int .i64 ax) hD.out hS2 ?_; go_frame
                        refine held_call (i := 18) (dst := some 91) rfl rfl (by kernel_rfl) rfl (by go_simp) (hch.out _ hS2) ?_
                        rintro e u3 ⟨rfl, hb3⟩
                        have hS3 := below_step hb3 hS2
                        refine ⟨_, rfl, hS3, ?_⟩
                        go_frame
                        refine tr8 19 92 (.bool false) hD.out hS3 ?_; go_frame
                        refine tr8 20 93 (.bool false) hD.out hS3 ?_; go_frame
                        refine tm 21 94 93 (.bool false) hS3 ?_; go_frame
                        refine tr8 22 95 (.pointer (some ⟨B, 2, none⟩)) hD.out hS3 ?_; go_frame
                        refine tr8 23 96 (.int .i64 ah) hD.out hS3 ?_; go_frame
                        refine tr8 24 97 (.pointer (some ⟨B, 1, none⟩)) hD.out hS3 ?_; go_frame
                        refine tr8 25 98 (.int .i64 am) hD.out hS3 ?_; go_frame
                        refine held_call (i := 26) (dst := some 99) rfl rfl (by kernel_rfl) rfl (by go_simp) (hc1.out _) ?_
                        rintro e u4 ⟨rfl, hb4⟩
                        have hS4 := hb4 ▸ hS3
                        refine ⟨_, rfl, hS4, ?_⟩
                        go_frame
                        refine tr8 27 100 (.bool false) hD.out hS4 ?_; go_frame
                        refine tm 28 101 100 (.bool false) hS4 ?_; go_frame
                        refine tr8 29 102 (.pointer (some ⟨B, 1, none⟩)) hD.out hS4 ?_; go_frame
                        refine tr8 30 103 (.int .i64 am) hD.out hS4 ?_; go_frame
                        refine tr8 31 104 (.pointer (some ⟨B, 2, none⟩)) hD.out hS4 ?_; go_frame
                        refine tr8 32 105 (.int .i64 ah) hD.out hS4 ?_; go_frame
                        refine held_call (i := 33) (dst := some 106) rfl rfl (by kernel_rfl) rfl (by go_simp) (hc2.out _) ?_
                        rintro e u5 ⟨rfl, hb5⟩
                        have hS5 := hb5 ▸ hS4
                        refine ⟨_, rfl, hS5, ?_⟩
                        go_frame
                        refine tr8 34 107 (.bool false) hD.out hS5 ?_; go_frame
                        refine tr8 35 108 (.bool false) hD.out hS5 ?_; go_frame
                        refine wpAnyH_done (by kernel_rfl) ?_ _
                        have hS9 := Lib.hid hS5
                        obtain rfl : u3 = u4 := hb4.symm
                        obtain rfl : u3 = u5 := hb5.symm
                        have hu5 : Hid (Below WA.heap.size WA u3) := hS9.out
                        have g2 := (hbB.out.below hu5.out (Nat.le_refl _)).cell 2 rfl
                        have q4 := (hqx.out.below hu5.out (Nat.le_refl _)).cell 4 rfl
                        rcases Nat.eq_zero_or_pos K with hk0 | hpos
                        · have hst : Hid (WfR k hs ws (K + 1)) := hr.out.wf.step hx'.out htb'.out hmb'.out hR'.out.symm hcb'.out hcd'.out (fun j p e => by omega)
                          subst hk0
                          have hsl := slice_w (some A) wn wc 0 (by omega) hwc.out u3
                          go_wp2
                          clear g2 q4 hsl
                          go_loopw [131] (fun v131 wr => v131 = .int .i64 0 ∧ Hid (Below WA.heap.size WA wr)) (fun _ _ => 0)
                          case atStart => exact ⟨rfl, hS9.out⟩
                          case round =>
                            obtain ⟨rfl, hr3⟩ := hrel
                            obtain ⟨wi, rfl⟩ : ∃ u, u = wr := ⟨_, rfl⟩
                            have hbf := Lib.hid (below_step hr3.out hBA.out)
                            go_wp2
                            go_roundw
                            case rel => exact ⟨1, by omega, by go_num, hbf.out, hst.out, fun i j a b hi hj => by omega⟩
                            case measure => simp [intOf]; omega
                        · by_cases hah : ah = 0
                          · have kz : (K : Int) > 0 := by omega
                            have hab : (ah != 0) = false := by simp [hah]
                            have hst : Hid (WfR k hs ws (K + 1)) := hr.out.wf.step hx'.out htb'.out hmb'.out hR'.out.symm hcb'.out hcd'.out (fun j p e hp hcv => by unfold convB at hcv; simp [hah] at hcv)
                            clear hah hpos
                            have hsl := slice_w (some A) wn wc K (by omega) hwc.out u3
                            go_wp2
                            clear g2 q4 kz hsl
                            go_loopw [131] (fun v131 wr => ∃ p : Nat, p ≤ K ∧ v131 = .int .i64 p ∧ Hid (Below WA.heap.size WA wr) ∧ Hid (∀ j a, j < p → ws[j]? = some a → a.x ≠ ax)) (fun v131 _ => K - (intOf v131).toNat)
                            case atStart => exact ⟨0, Nat.zero_le _, rfl, hS9.out, Lib.hid (fun j a hj => by omega)⟩
                            case round =>
                              obtain ⟨p, hp, rfl, hr3, hnd⟩ := hrel
                              obtain ⟨wi, rfl⟩ : ∃ u, u = wr := ⟨_, rfl⟩
                              by_cases hlp : p < K
                              · obtain ⟨A2, ⟨yx, ym, yh⟩, hqY, hY, hcY⟩ := (hwA.out.below hr3.out (Nat.le_refl _)).at (show p < wn by omega)
                                cases hqY
                                have hcellY : Hid (∀ j' v, ([.int .i64 yx, .int .i64 ym, .int .i64 yh] : List Value)[j']? = some v → wi.cell? ((A.add (p * 3)).add j') = some v) := fun j' v hj => hcY j' v hj
                                have sy := sizeWait (.int .i64 yx) (.int .i64 ym) (.int .i64 yh)
                                have hY' := Lib.hid hY
                                have p0 : (0 : Int) ≤ p := by omega
                                have p1 : (p : Int) < K := by omega
                                obtain ⟨WY, hWY⟩ : ∃ W', wi.alloc (.cells #[.int .i64 yx, .int .i64 ym, .int .i64 yh] 47) = W' := ⟨_, rfl⟩
                                have hbY := Lib.hid (one_box (xs := [.int .i64 yx, .int .i64 ym, .int .i64 yh]) hWY)
                                have hbAY := Lib.hid (below_step hbY.out.1 hr3.out)
                                have z0 := hbY.out.2.1.cell 0 rfl
                                have z1 := (hbB.out.below hbAY.out (Nat.le_refl _)).cell 0 rfl
                                clear hY hcY
                                by_cases hxe : yx = ax
                                · have hxb : (yx == ax) = true := by simp [hxe]
                                  have hfin : Hid (b = false) := no_b hb'.out (fun f => nd_at.1 f.2 K p _ _ hlp hx'.out hY'.out hxe)
                                  clear hxe
                                  go_wp2_with (first
                                    | (with_reducible refine wpList_load_at rfl 47 (.tmp 133) rfl Tryz.underlying47 rfl sy rfl hcellY.out ?_))
                                  go_ret
                                  exact ⟨ret_b hfin.out.symm, below_step (below_step hbAY.out hBA.out) hbx.out.1⟩
                                · have hxb : (yx == ax) = false := by simpa using hxe
                                  have hxn := Lib.hid hxe
                                  clear hxe
                                  go_wp2_with (first
                                    | (with_reducible refine wpList_load_at rfl 47 (.tmp 133) rfl Tryz.underlying47 rfl sy rfl hcellY.out ?_))
                                  go_roundw
                                  case rel =>
                                    refine ⟨p + 1, by omega, by go_num, hbAY.out, Lib.hid (fun j a hj ha => ?_)⟩
                                    rcases Nat.lt_or_ge j p with h1 | h1
                                    · exact hnd.out j a h1 ha
                                    · obtain rfl : j = p := by omega
                                      rw [hY'.out] at ha
                                      cases ha
                                      exact hxn.out
                                  case measure => simp [intOf]; omega
                              · obtain rfl : p = K := by omega
                                have hbf := Lib.hid (below_step hr3.out hBA.out)
                                go_wp2
                                go_roundw
                                case rel =>
                                  refine ⟨p + 1, by omega, by go_num, hbf.out, hst.out, fun i j a b hi hj ha hb => ?_⟩
                                  rcases Nat.lt_or_ge i p with h1 | h1
                                  · exact hr.out.nd i j a b h1 hj ha hb
                                  · obtain rfl : i = p := by omega
                                    rw [hx'.out] at ha
                                    cases ha
                                    exact hnd.out j b hj hb
                                case measure => simp [intOf]; omega
                          · have hab : (ah != 0) = true := by simpa using hah
                            obtain ⟨m, rfl⟩ : ∃ m, K = m + 1 := ⟨K - 1, by omega⟩
                            obtain ⟨A', ⟨px, pm, ph⟩, hqA', hy, hcy⟩ := (hwA.out.below hu5.out (Nat.le_refl _)).at (show m < wn by omega)
                            cases hqA'
                            have hy' := Lib.hid hy
                            have g4 : u3.cell? ⟨(A.add (m * 3)).block, (A.add (m * 3)).off + 2, none⟩ = some (.int .i64 ph) := hcy 2 _ rfl
                            have kp : (0 : Int) < (m : Int) + 1 := by omega
                            have w0 : IntKind.i64.wrap ((m : Int) + 1 - 1) = m := by rw [Int.add_sub_cancel]; exact IntWalk.i64_in (m : Int) (by omega)
                            have w1' : IntKind.i64.wrap (m : Int) = m := IntWalk.i64_in (m : Int) (by omega)
                            have j0 : (0 : Int) ≤ m := by omega
                            have j1 : (m : Int) < wn := by omega
                            clear hy hcy
                            by_cases hph : ph = 0
                            · have hpb : (ph == 0) = true := by simp [hph]
                              have hfin : Hid (b = false) := no_b hb'.out (fun f => by
                                have h := f.1.ws.ord m _ _ hy'.out hx'.out (by unfold convB; simpa using hah)
                                unfold convB at h
                                simp [hph] at h)
                              clear hph
                              go_wp2
                              go_ret
                              exact ⟨ret_b hfin.out.symm, below_step (below_step hu5.out hBA.out) hbx.out.1⟩
                            · have hpb : (ph == 0) = false := by simpa using hph
                              have hst : Hid (WfR k hs ws (m + 1 + 1)) := hr.out.wf.step hx'.out htb'.out hmb'.out hR'.out.symm hcb'.out hcd'.out (fun j p e hp _ => by
                                obtain rfl : j = m := by omega
                                rw [hy'.out] at hp
                                cases hp
                                unfold convB
                                simpa using hph)
                              clear hph hah
                              have hsl := slice_w (some A) wn wc (m + 1) (by omega) hwc.out u3
                              rw [show (((m + 1 : Nat)) : Int) = (m : Int) + 1 by omega] at hsl
                              go_wp2
                              clear g2 q4 g4 w0 w1' kp hsl
                              go_loopw [131] (fun v131 wr => ∃ p : Nat, p ≤ m + 1 ∧ v131 = .int .i64 p ∧ Hid (Below WA.heap.size WA wr) ∧ Hid (∀ j a, j < p → ws[j]? = some a → a.x ≠ ax)) (fun v131 _ => m + 1 - (intOf v131).toNat)
                              case atStart => exact ⟨0, Nat.zero_le _, rfl, hS9.out, Lib.hid (fun j a hj => by omega)⟩
                              case round =>
                                obtain ⟨p, hp, rfl, hr3, hnd⟩ := hrel
                                obtain ⟨wi, rfl⟩ : ∃ u, u = wr := ⟨_, rfl⟩
                                by_cases hlp : p < m + 1
                                · obtain ⟨A2, ⟨yx, ym, yh⟩, hqY, hY, hcY⟩ := (hwA.out.below hr3.out (Nat.le_refl _)).at (show p < wn by omega)
                                  cases hqY
                                  have hcellY : Hid (∀ j' v, ([.int .i64 yx, .int .i64 ym, .int .i64 yh] : List Value)[j']? = some v → wi.cell? ((A.add (p * 3)).add j') = some v) := fun j' v hj => hcY j' v hj
                                  have sy := sizeWait (.int .i64 yx) (.int .i64 ym) (.int .i64 yh)
                                  have hY' := Lib.hid hY
                                  have p0 : (0 : Int) ≤ p := by omega
                                  have p1 : (p : Int) < (m + 1 : Nat) := by omega
                                  obtain ⟨WY, hWY⟩ : ∃ W', wi.alloc (.cells #[.int .i64 yx, .int .i64 ym, .int .i64 yh] 47) = W' := ⟨_, rfl⟩
                                  have hbY := Lib.hid (one_box (xs := [.int .i64 yx, .int .i64 ym, .int .i64 yh]) hWY)
                                  have hbAY := Lib.hid (below_step hbY.out.1 hr3.out)
                                  have z0 := hbY.out.2.1.cell 0 rfl
                                  have z1 := (hbB.out.below hbAY.out (Nat.le_refl _)).cell 0 rfl
                                  clear hY hcY
                                  by_cases hxe : yx = ax
                                  · have hxb : (yx == ax) = true := by simp [hxe]
                                    have hfin : Hid (b = false) := no_b hb'.out (fun f => nd_at.1 f.2 (m + 1) p _ _ hlp hx'.out hY'.out hxe)
                                    clear hxe
                                    go_wp2_with (first
                                      | (with_reducible refine wpList_load_at rfl 47 (.tmp 133) rfl Tryz.underlying47 rfl sy rfl hcellY.out ?_))
                                    go_ret
                                    exact ⟨ret_b hfin.out.symm, below_step (below_step hbAY.out hBA.out) hbx.out.1⟩
                                  · have hxb : (yx == ax) = false := by simpa using hxe
                                    have hxn := Lib.hid hxe
                                    clear hxe
                                    go_wp2_with (first
                                      | (with_reducible refine wpList_load_at rfl 47 (.tmp 133) rfl Tryz.underlying47 rfl sy rfl hcellY.out ?_))
                                    go_roundw
                                    case rel =>
                                      refine ⟨p + 1, by omega, by go_num, hbAY.out, Lib.hid (fun j a hj ha => ?_)⟩
                                      rcases Nat.lt_or_ge j p with h1 | h1
                                      · exact hnd.out j a h1 ha
                                      · obtain rfl : j = p := by omega
                                        rw [hY'.out] at ha
                                        cases ha
                                        exact hxn.out
                                    case measure => simp [intOf]; omega
                                · obtain rfl : p = m + 1 := by omega
                                  have hbf := Lib.hid (below_step hr3.out hBA.out)
                                  go_wp2
                                  go_roundw
                                  case rel =>
                                    refine ⟨m + 1 + 1, by omega, by go_num, hbf.out, hst.out, fun i j a b hi hj ha hb => ?_⟩
                                    rcases Nat.lt_or_ge i (m + 1) with h1 | h1
                                    · exact hr.out.nd i j a b h1 hj ha hb
                                    · obtain rfl : i = m + 1 := by omega
                                      rw [hx'.out] at ha
                                      cases ha
                                      exact hnd.out j b hj hb
                                  case measure => simp [intOf]; omega
                  · have hnb : (ah == R) = false := by simpa using hne
                    have hfin : Hid (b = false) := no_b hb'.out (fun f => by have h := (f.1.ws.at hx'.out).2.2.1; simp only at h; exact hne (h.trans hR'.out))
                    have hD : Hid (∀ u, Below WA.heap.size WA u → u.cell? ⟨B, 0, none⟩ = some (.int .i64 ax) ∧ u.cell? ⟨B, 1, none⟩ = some (.int .i64 am) ∧ u.cell? ⟨B, 2, none⟩ = some (.int .i64 ah) ∧ u.cell? ⟨w.heap.size, 0, none⟩ = some (.int .i64 t) ∧ u.cell? ⟨w.heap.size, 1, none⟩ = some (.bool k) ∧ u.cell? ⟨w.heap.size, 2, none⟩ = some (.int .u16 id) ∧ u.cell? ⟨w.heap.size, 3, none⟩ = some (.slice hq hn hc) ∧ u.cell? ⟨w.heap.size, 4, none⟩ = some (.slice (some A) wn wc)) := fun u hu => ⟨(hbB.out.below hu (Nat.le_refl _)).cell 0 rfl, (hbB.out.below hu (Nat.le_refl _)).cell 1 rfl, (hbB.out.below hu (Nat.le_refl _)).cell 2 rfl, (hqx.out.below hu (Nat.le_refl _)).cell 0 rfl, (hqx.out.below hu (Nat.le_refl _)).cell 1 rfl, (hqx.out.below hu (Nat.le_refl _)).cell 2 rfl, (hqx.out.below hu (Nat.le_refl _)).cell 3 rfl, (hqx.out.below hu (Nat.le_refl _)).cell 4 rfl⟩
                    refine wp_region_held (S := fun u => Below WA.heap.size WA u) (by kernel_rfl) ?_
                    change wpAnyH _ _ _ _ _ _ _ _ (World.drew WA)
                    have hS0 : Below WA.heap.size WA WA.drew := below_drew _
                    refine tr8 0 73 (.pointer (some ⟨B, 0, none⟩)) hD.out hS0 ?_; go_frame
                    refine tr8 1 74 (.int .i64 ax) hD.out hS0 ?_; go_frame
                    refine held_call (i := 2) (dst := some 75) rfl rfl (by kernel_rfl) rfl (by go_simp) (hct.out _) ?_
                    rintro e u1 ⟨rfl, hb1⟩
                    have hS1 := hb1 ▸ hS0
                    refine ⟨_, rfl, hS1, ?_⟩
                    go_frame
                    refine tr8 3 76 (.bool false) hD.out hS1 ?_; go_frame
                    refine tm 4 77 76 (.bool false) hS1 ?_; go_frame
                    refine tr8 5 78 (.pointer (some ⟨w.heap.size, 0, none⟩)) hD.out hS1 ?_; go_frame
                    refine tr8 6 79 (.agg #[.int .i64 t, .bool k, .int .u16 id]) hD.out hS1 ?_; go_frame
                    refine tr8 7 80 (.pointer (some ⟨B, 1, none⟩)) hD.out hS1 ?_; go_frame
                    refine tr8 8 81 (.int .i64 am) hD.out hS1 ?_; go_frame
                    refine held_call (i := 9) (dst := some 82) rfl rfl (by kernel_rfl) rfl (by go_simp) (hcm.out _) ?_
                    rintro e u2 ⟨rfl, hb2⟩
                    have hS2 := below_step hb2 hS1
                    refine ⟨_, rfl, hS2, ?_⟩
                    go_frame
                    refine tr8 10 83 (.bool false) hD.out hS2 ?_; go_frame
                    refine tr8 11 84 (.bool false) hD.out hS2 ?_; go_frame
                    refine tm 12 85 84 (.bool false) hS2 ?_; go_frame
                    refine tr8 13 86 (.pointer (some ⟨B, 2, none⟩)) hD.out hS2 ?_; go_frame
                    refine tr8 14 87 (.int .i64 ah) hD.out hS2 ?_; go_frame
                    refine tr8 15 88 (.agg #[.int .i64 t, .bool k, .int .u16 id, .slice hq hn hc, .slice (some A) wn wc]) hD.out hS2 ?_; go_frame
                    refine tr8 16 89 (.pointer (some ⟨B, 0, none⟩)) hD.out hS2 ?_; go_frame
                    refine tr8 17 90 (.int .i64 ax) hD.out hS2 ?_; go_frame
                    refine held_call (i := 18) (dst := some 91) rfl rfl (by kernel_rfl) rfl (by go_simp) (hch.out _ hS2) ?_
                    rintro e u3 ⟨rfl, hb3⟩
                    have hS3 := below_step hb3 hS2
                    refine ⟨_, rfl, hS3, ?_⟩
                    go_frame
                    refine tr8 19 92 (.bool true) hD.out hS3 ?_; go_frame
                    refine tr8 20 93 (.bool true) hD.out hS3 ?_; go_frame
                    refine tm 21 94 93 (.bool true) hS3 ?_; go_frame
                    refine tu 22 95 hS3 ?_; go_frame
                    refine tu 23 96 hS3 ?_; go_frame
                    refine tu 24 97 hS3 ?_; go_frame
                    refine tu 25 98 hS3 ?_; go_frame
                    refine tu 26 99 hS3 ?_; go_frame
                    refine tr8 27 100 (.bool true) hD.out hS3 ?_; go_frame
                    refine tm 28 101 100 (.bool true) hS3 ?_; go_frame
                    refine tu 29 102 hS3 ?_; go_frame
                    refine tu 30 103 hS3 ?_; go_frame
                    refine tu 31 104 hS3 ?_; go_frame
                    refine tu 32 105 hS3 ?_; go_frame
                    refine tu 33 106 hS3 ?_; go_frame
                    refine tu 34 107 hS3 ?_; go_frame
                    refine tr8 35 108 (.bool true) hD.out hS3 ?_; go_frame
                    refine wpAnyH_done (by kernel_rfl) ?_ _
                    have hS9 := Lib.hid (below_step (below_step hS3 hBA.out) hbx.out.1)
                    go_wp2
                    go_ret
                    exact ⟨ret_b hfin.out.symm, hS9.out⟩
            · obtain rfl : wn = K := by omega
              have hwf : (∀ a, ws[0]? = some a → goesF hs a.x a.m = false) → QuFit ⟨⟨t, k, id⟩, hs, ws⟩ ∧ (ws.map (·.x)).Nodup := fun hf => ⟨⟨hrb'.out, hfit.out, hr.out.wf.done hl2.out (fun a ha => by rw [goesF_W]; exact hf a ha)⟩, nd_at.2 (fun i j a b hij ha hb => hr.out.nd i j a b (by have := (List.getElem?_eq_some_iff.1 ha).1; have := hl2.out; omega) hij ha hb)⟩
              have hqx := Lib.hid (hbx.out.2.1.below hbr.out (Nat.le_refl _))
              go_wp2_with fail
              by_cases hz : wn = 0
              · have hz0 : ((wn : Int) == 0) = true := by simp [hz]
                have hfin : Hid (b = true) := hb'.out.2 (hwf (fun a ha => by have := (List.getElem?_eq_some_iff.1 ha).1; have := hl2.out; omega))
                clear hz hwf
                have q4 := hqx.out.cell 4 rfl
                go_quiet (fail)
                clear q4
                go_wp2
                go_ret
                exact ⟨ret_b hfin.out.symm, below_step (hbr.out.trans ((below_drewN _ _).mono hbr.out.size)) hbx.out.1⟩
              · have hz0 : ((wn : Int) == 0) = false := by rw [beq_eq_false_iff_ne]; omega
                have hwz : Hid (¬ wn = 0) := hz
                have z1 : (0 : Int) < wn := by omega
                obtain ⟨A, ⟨ax, am, ah⟩, hqA, hx, hcA⟩ := (hwo.out.below hbr.out (Nat.le_refl _)).at (show 0 < wn by omega)
                subst hqA
                have hcA' : ∀ j' v, ([.int .i64 ax, .int .i64 am, .int .i64 ah] : List Value)[j']? = some v → wo.cell? (A.add j') = some v := fun j' v hj => by
                  have h := hcA j' v hj
                  rwa [Nat.zero_mul, add0] at h
                have hg0 : Hid (∀ u, Below wo.heap.size wo u → u.cell? A = some (.int .i64 ax)) := fun u hu => by have h := cell_kept hu (Nat.le_refl _) (hcA' 0 _ rfl); rwa [add0] at h
                have hg1 : Hid (∀ u, Below wo.heap.size wo u → u.cell? ⟨A.block, A.off + 1, none⟩ = some (.int .i64 am)) := fun u hu => cell_kept hu (Nat.le_refl _) (hcA' 1 _ rfl)
                obtain ⟨gb, hgb⟩ : ∃ gb, goesF hs ax am = gb := ⟨_, rfl⟩
                have hcg := Lib.hid (fun u hu => rgo_any t k id hq hn hc (some A) wn wc hs ax am gb u ((hho.out.below hbr.out (Nat.le_refl _)).below (B := wo.heap.size) hu (Nat.le_refl _)) hgb)
                have hfin : Hid (b = !gb) := by
                  show _ = _
                  cases gb with
                  | true => exact no_b hb'.out (fun f => by have h := f.1.ws.first _ hx; rw [goesF_W] at h; simp only at h; rw [hgb] at h; cases h)
                  | false => exact hb'.out.2 (hwf (fun a ha => by rw [hx] at ha; cases ha; exact hgb))
                clear hz hwf hcA hcA' hgb hx
                cases gb with
                | true =>
                  have hD : Hid (∀ u, Below wo.heap.size wo u → u.cell? ⟨w.heap.size, 0, none⟩ = some (.int .i64 t) ∧ u.cell? ⟨w.heap.size, 1, none⟩ = some (.bool k) ∧ u.cell? ⟨w.heap.size, 2, none⟩ = some (.int .u16 id) ∧ u.cell? ⟨w.heap.size, 3, none⟩ = some (.slice hq hn hc) ∧ u.cell? ⟨w.heap.size, 4, none⟩ = some (.slice (some A) wn wc) ∧ u.cell? A = some (.int .i64 ax) ∧ u.cell? ⟨A.block, A.off + 1, none⟩ = some (.int .i64 am)) := fun u hu => ⟨(hqx.out.below hu (Nat.le_refl _)).cell 0 rfl, (hqx.out.below hu (Nat.le_refl _)).cell 1 rfl, (hqx.out.below hu (Nat.le_refl _)).cell 2 rfl, (hqx.out.below hu (Nat.le_refl _)).cell 3 rfl, (hqx.out.below hu (Nat.le_refl _)).cell 4 rfl, hg0.out _ hu, hg1.out _ hu⟩
                  refine wp_region_held (S := fun u => Below wo.heap.size wo u) (by kernel_rfl) ?_
                  change wpAnyH _ _ _ _ _ _ _ _ (World.drew wo)
                  have hS0 : Below wo.heap.size wo wo.drew := below_drew _
                  refine tr7 0 142 (.pointer (some ⟨w.heap.size, 4, none⟩)) hD.out hS0 ?_; go_frame
                  refine tr7 1 143 (.slice (some A) wn wc) hD.out hS0 ?_; go_frame
                  refine tr7 2 144 (.int .i64 (wn : Int)) hD.out hS0 ?_; go_frame
                  refine tr7 3 145 (.bool false) hD.out hS0 ?_; go_frame
                  refine tm 4 146 145 (.bool false) hS0 ?_; go_frame
                  refine tr7 5 147 (.agg #[.int .i64 t, .bool k, .int .u16 id, .slice hq hn hc, .slice (some A) wn wc]) hD.out hS0 ?_; go_frame
                  refine tr7 6 148 (.pointer (some ⟨w.heap.size, 4, none⟩)) hD.out hS0 ?_; go_frame
                  refine tr7 7 149 (.slice (some A) wn wc) hD.out hS0 ?_; go_frame
                  refine held_tk (i := 8) (dst := some 150) (v := .pointer (some A)) rfl rfl (.inl ⟨rfl, fun u hu => by obtain ⟨q0, q1, q2, q3, q4, g0, g1⟩ := hD.out u hu; go_simp; exact fun h => absurd h hwz.out⟩) hS0 ?_
                  go_frame
                  refine tr7 9 151 (.pointer (some A)) hD.out hS0 ?_; go_frame
                  refine tr7 10 152 (.int .i64 ax) hD.out hS0 ?_; go_frame
                  refine tr7 11 153 (.pointer (some ⟨w.heap.size, 4, none⟩)) hD.out hS0 ?_; go_frame
                  refine tr7 12 154 (.slice (some A) wn wc) hD.out hS0 ?_; go_frame
                  refine held_tk (i := 13) (dst := some 155) (v := .pointer (some A)) rfl rfl (.inl ⟨rfl, fun u hu => by obtain ⟨q0, q1, q2, q3, q4, g0, g1⟩ := hD.out u hu; go_simp; exact fun h => absurd h hwz.out⟩) hS0 ?_
                  go_frame
                  refine tr7 14 156 (.pointer (some ⟨A.block, A.off + 1, none⟩)) hD.out hS0 ?_; go_frame
                  refine tr7 15 157 (.int .i64 am) hD.out hS0 ?_; go_frame
                  refine held_call (i := 16) (dst := some 158) rfl rfl (by kernel_rfl) rfl (by go_simp) (hcg.out _ hS0) ?_
                  rintro e u1 ⟨rfl, hb1⟩
                  have hS1 := below_step hb1 hS0
                  refine ⟨_, rfl, hS1, ?_⟩
                  go_frame
                  refine tr7 17 159 (.bool false) hD.out hS1 ?_; go_frame
                  refine tr7 18 160 (.bool false) hD.out hS1 ?_; go_frame
                  refine tr7 19 2 (.bool false) hD.out hS1 ?_; go_frame
                  refine wpAnyH_done (by kernel_rfl) ?_ _
                  have hS9 := Lib.hid (below_step (below_step hS1 hbr.out) hbx.out.1)
                  go_wp2
                  go_ret
                  exact ⟨ret_b hfin.out.symm, hS9.out⟩
                | false =>
                  have hD : Hid (∀ u, Below wo.heap.size wo u → u.cell? ⟨w.heap.size, 0, none⟩ = some (.int .i64 t) ∧ u.cell? ⟨w.heap.size, 1, none⟩ = some (.bool k) ∧ u.cell? ⟨w.heap.size, 2, none⟩ = some (.int .u16 id) ∧ u.cell? ⟨w.heap.size, 3, none⟩ = some (.slice hq hn hc) ∧ u.cell? ⟨w.heap.size, 4, none⟩ = some (.slice (some A) wn wc) ∧ u.cell? A = some (.int .i64 ax) ∧ u.cell? ⟨A.block, A.off + 1, none⟩ = some (.int .i64 am)) := fun u hu => ⟨(hqx.out.below hu (Nat.le_refl _)).cell 0 rfl, (hqx.out.below hu (Nat.le_refl _)).cell 1 rfl, (hqx.out.below hu (Nat.le_refl _)).cell 2 rfl, (hqx.out.below hu (Nat.le_refl _)).cell 3 rfl, (hqx.out.below hu (Nat.le_refl _)).cell 4 rfl, hg0.out _ hu, hg1.out _ hu⟩
                  refine wp_region_held (S := fun u => Below wo.heap.size wo u) (by kernel_rfl) ?_
                  change wpAnyH _ _ _ _ _ _ _ _ (World.drew wo)
                  have hS0 : Below wo.heap.size wo wo.drew := below_drew _
                  refine tr7 0 142 (.pointer (some ⟨w.heap.size, 4, none⟩)) hD.out hS0 ?_; go_frame
                  refine tr7 1 143 (.slice (some A) wn wc) hD.out hS0 ?_; go_frame
                  refine tr7 2 144 (.int .i64 (wn : Int)) hD.out hS0 ?_; go_frame
                  refine tr7 3 145 (.bool false) hD.out hS0 ?_; go_frame
                  refine tm 4 146 145 (.bool false) hS0 ?_; go_frame
                  refine tr7 5 147 (.agg #[.int .i64 t, .bool k, .int .u16 id, .slice hq hn hc, .slice (some A) wn wc]) hD.out hS0 ?_; go_frame
                  refine tr7 6 148 (.pointer (some ⟨w.heap.size, 4, none⟩)) hD.out hS0 ?_; go_frame
                  refine tr7 7 149 (.slice (some A) wn wc) hD.out hS0 ?_; go_frame
                  refine held_tk (i := 8) (dst := some 150) (v := .pointer (some A)) rfl rfl (.inl ⟨rfl, fun u hu => by obtain ⟨q0, q1, q2, q3, q4, g0, g1⟩ := hD.out u hu; go_simp; exact fun h => absurd h hwz.out⟩) hS0 ?_
                  go_frame
                  refine tr7 9 151 (.pointer (some A)) hD.out hS0 ?_; go_frame
                  refine tr7 10 152 (.int .i64 ax) hD.out hS0 ?_; go_frame
                  refine tr7 11 153 (.pointer (some ⟨w.heap.size, 4, none⟩)) hD.out hS0 ?_; go_frame
                  refine tr7 12 154 (.slice (some A) wn wc) hD.out hS0 ?_; go_frame
                  refine held_tk (i := 13) (dst := some 155) (v := .pointer (some A)) rfl rfl (.inl ⟨rfl, fun u hu => by obtain ⟨q0, q1, q2, q3, q4, g0, g1⟩ := hD.out u hu; go_simp; exact fun h => absurd h hwz.out⟩) hS0 ?_
                  go_frame
                  refine tr7 14 156 (.pointer (some ⟨A.block, A.off + 1, none⟩)) hD.out hS0 ?_; go_frame
                  refine tr7 15 157 (.int .i64 am) hD.out hS0 ?_; go_frame
                  refine held_call (i := 16) (dst := some 158) rfl rfl (by kernel_rfl) rfl (by go_simp) (hcg.out _ hS0) ?_
                  rintro e u1 ⟨rfl, hb1⟩
                  have hS1 := below_step hb1 hS0
                  refine ⟨_, rfl, hS1, ?_⟩
                  go_frame
                  refine tr7 17 159 (.bool true) hD.out hS1 ?_; go_frame
                  refine tr7 18 160 (.bool true) hD.out hS1 ?_; go_frame
                  refine tr7 19 2 (.bool true) hD.out hS1 ?_; go_frame
                  refine wpAnyH_done (by kernel_rfl) ?_ _
                  have hS9 := Lib.hid (below_step (below_step hS1 hbr.out) hbx.out.1)
                  go_wp2
                  go_ret
                  exact ⟨ret_b hfin.out.symm, hS9.out⟩
end Go.Proofs.YtbgpppbcffpdbaaGreatDoor
