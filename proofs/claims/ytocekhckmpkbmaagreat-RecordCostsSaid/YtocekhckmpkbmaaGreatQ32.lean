/- Parts of the proof: The laws on records: what few makes of images, steps; lists of images that grow; Plain mathematics of records: what undoes a change, or an operation, and what it costs; cloned and Redoes of record; The document's record: what a record costs, and undoing it at most; The document's record: what undoing a record costs at most; The laws' arguments, opened to their cells: contents; The last step of every law's proof: what the call leaves alone reads as it did; small facts of this dump -/
import Derived.Test.YtocekhckmpkbmaaGreatQ31
import Derived.Test.YtocekhckmpkbmaaGreatQ01
import Derived.Test.YtocekhckmpkbmaaGreatQ22
import Derived.Test.YtocekhckmpkbmaaGreatQ18
import Derived.Deep.Slices
import Derived.Deep.Fields
import Derived.ChangeSame
import Derived.Lib.SmallJoins
import Derived.Test.YtocekhckmpkbmaaGreatQ30
import Derived.ProofKit
namespace Go.Proofs.YtocekhckmpkbmaaGreat
open Go.RowKit
theorem ImgsM.below {w w' : World} {B : Nat} {o : Option Nat} {V : List ImgV} {L : List ImgD} (h : ImgsM w B o V L) (hb : Below w.heap.size w w') : ImgsM w' B o V L :=
 ⟨h.len, h.ap, fun i v x hv hx => (h.on i v x hv hx).below hb (Nat.le_refl _), h.far⟩
/-- one image more; the list's block is o, or a new one then -/
theorem ImgsM.snoc {w w' : World} {B : Nat} {o o' : Option Nat} {V : List ImgV} {L : List ImgD} {v : ImgV} {x : ImgD} (h : ImgsM w B o V L) (hon : ImgOn w v x) (hfar : FarI B v) (hap : ApI o v) (hg : w.grownBy w' o) (hat : o' = o ∨ o' = some w.heap.size) : ImgsM w' B o' (V ++ [v]) (L ++ [x]) := by
 have hml := h.len; refine ⟨by rw [List.length_append, List.length_append, hml]; rfl, fun u hu => ?_, fun i u y hu hy => ?_, fun u hu => ?_⟩
 · rcases hat with e | e
   · rw [e]
     rcases List.mem_append.1 hu with hu | hu
     · exact h.ap u hu
     · rw [List.mem_singleton.1 hu]; exact hap
   · rw [e]
     rcases List.mem_append.1 hu with hu | hu
     · obtain ⟨i, hi⟩ := List.mem_iff_getElem?.1 hu
       have hlen := (List.getElem?_eq_some_iff.1 hi).1; exact (h.on i u _ hi (List.getElem?_eq_getElem (by omega))).new
     · rw [List.mem_singleton.1 hu]; exact hon.new
 · rcases get_snoc hu with ⟨h1, h2⟩ | ⟨h1, h2⟩
   · rcases get_snoc hy with ⟨h3, h4⟩ | ⟨h3, _⟩
     · exact (h.on i u y h2 h4).gr0 hg (h.ap u (List.mem_of_getElem? h2))
     · omega
   · rcases get_snoc hy with ⟨h3, _⟩ | ⟨_, h4⟩
     · omega
     · rw [h2, h4]; exact hon.gr0 hg hap
 · rcases List.mem_append.1 hu with hu | hu
   · exact h.far u hu
   · rw [List.mem_singleton.1 hu]; exact hfar
def fewI (d : ImgD) : ImgD := ⟨d.page, fewC d.bef, fewC d.aft⟩
def shortS (s : StepD) : StepD := ⟨s.kind, shortR s.row, s.by_⟩
/-- what few makes of a record -/
def fewRec (r : RecD) : RecD := ⟨r.kind, r.lsn, r.txn, r.prev, r.next, (r.images.take 17).map fewI, (r.steps.take 3).map shortS, r.nextTxn, r.txns.take 9, r.dirty.take 65⟩
/-- steps of which the first have short notes -/
def shortsS (R : List StepD) (j : Nat) : List StepD := (R.take j).map shortS ++ R.drop j
theorem shortsS_at {R : List StepD} {j : Nat} {r : StepD} (h : R[j]? = some r) : (shortsS R j)[j]? = some r ∧ (shortsS R j).set j (shortS r) = shortsS R (j + 1) := by
 obtain ⟨hj, rfl⟩ := List.getElem?_eq_some_iff.1 h; have hl : ((R.take j).map shortS).length = j := by rw [List.length_map, List.length_take, Nat.min_eq_left (by omega)]
 have hd : R.drop j = R[j] :: R.drop (j + 1) := List.drop_eq_getElem_cons hj; unfold shortsS; refine ⟨?_, ?_⟩
 · rw [List.getElem?_append_right (by omega), hl, Nat.sub_self, hd]; rfl
 · rw [List.set_append_right _ _ (by omega), hl, Nat.sub_self, hd, List.set_cons_zero, List.take_add_one, h, List.map_append, List.append_assoc]
   rfl
theorem shortS_ok {s : StepD} (h : StepOk s) : StepOk (shortS s) := ⟨h.kind, shortR_ok h.row, h.by_⟩
theorem few17_step {L : List ImgD} {j : Nat} {d : ImgD} (h : L[j]? = some d) (hj : j ≤ 16) : ((L.take (j + 1)).take 17).map fewI = ((L.take j).take 17).map fewI ++ [fewI d] := by
 rw [List.take_take, List.take_take, Nat.min_eq_right (by omega), Nat.min_eq_right (by omega), List.take_add_one, h, List.map_append]; rfl
theorem few17_same {L : List ImgD} {j : Nat} (hj : ¬ j ≤ 16) : ((L.take (j + 1)).take 17).map fewI = ((L.take j).take 17).map fewI := by
 rw [List.take_take, List.take_take, Nat.min_eq_left (by omega), Nat.min_eq_left (by omega)]
set_option maxRecDepth 100000 in
theorem slice_steps (p : Option Addr) (n c k : Nat) (hk : k ≤ n) (hn : n ≤ c) (u : World) :
 (Instr.slice 26 (.slice p n c) none (some (.int .i64 (k : Int))) none).run Tryz.prog u = .ok (.slice p k c) u := by
 have h := run_slice_h (P := Tryz.prog) u 26 p n c (by kernel_rfl) .i64 (k : Int) (by omega) (by omega); rw [h, show (sizeOf (Tryz.prog.elem 26)).run Tryz.prog u = .ok 6 u by kernel_rfl]; simp only [Result.andThen, sliced, Int.toNat_natCast, Nat.zero_mul, Nat.sub_zero]; congr 2
 split
 · rfl
 · cases p <;> simp [add_zero]
set_option maxRecDepth 100000 in
theorem slice_txns (p : Option Addr) (n c k : Nat) (hk : k ≤ n) (hn : n ≤ c) (u : World) :
 (Instr.slice 27 (.slice p n c) none (some (.int .i64 (k : Int))) none).run Tryz.prog u = .ok (.slice p k c) u := by
 have h := run_slice_h (P := Tryz.prog) u 27 p n c (by kernel_rfl) .i64 (k : Int) (by omega) (by omega); rw [h, show (sizeOf (Tryz.prog.elem 27)).run Tryz.prog u = .ok 5 u by kernel_rfl]; simp only [Result.andThen, sliced, Int.toNat_natCast, Nat.zero_mul, Nat.sub_zero]; congr 2
 split
 · rfl
 · cases p <;> simp [add_zero]
set_option maxRecDepth 100000 in
theorem slice_pgs (p : Option Addr) (n c k : Nat) (hk : k ≤ n) (hn : n ≤ c) (u : World) :
 (Instr.slice 28 (.slice p n c) none (some (.int .i64 (k : Int))) none).run Tryz.prog u = .ok (.slice p k c) u := by
 have h := run_slice_h (P := Tryz.prog) u 28 p n c (by kernel_rfl) .i64 (k : Int) (by omega) (by omega); rw [h, show (sizeOf (Tryz.prog.elem 28)).run Tryz.prog u = .ok 2 u by kernel_rfl]; simp only [Result.andThen, sliced, Int.toNat_natCast, Nat.zero_mul, Nat.sub_zero]; congr 2
 split
 · rfl
 · cases p <;> simp [add_zero]
end Go.Proofs.YtocekhckmpkbmaaGreat
namespace Go.Proofs.YtocekhckmpkbmaaGreat
open Go.RowKit
theorem enc5_len {r : RecD} (h : r.kind = 5) : (encRec r).length = 30 + (encL encAft r.images).length := by
 have e : (encRec r).length = 21 + (encRest r).length := by unfold encRec; simp only [List.length_append, length_be]
 rw [e]; unfold encRest; rw [h]; simp only [Int.reduceEq, if_false, if_true, List.length_append, length_be]; omega
theorem und_cost {r u : RecD} (hr : r.kind = 2) (hu : u.kind = 5) (hi : u.images = r.images.map befD) : (secs (encRec u).length : Int) = resN r := by
 unfold resN; rw [if_neg (by omega), if_pos hr, enc5_len hu, enc5_len (r := undD r (r.images.map befD)) rfl, hi]; rfl
end Go.Proofs.YtocekhckmpkbmaaGreat
namespace Go.Proofs.YtocekhckmpkbmaaGreat
open Go.RowKit
theorem may_imgs {r : RecD} (hm : mayB r = true) : ImagesOk r.images := by
 obtain ⟨_, _, h3, h4⟩ := may_parts hm
 by_cases h2 : r.kind = 2
 · rw [kindB2 h2] at h4
   simp only [Bool.and_eq_true] at h4; exact (pB_iff _).1 h4.2.2
 by_cases h5 : r.kind = 5
 · rw [kindB5 h5] at h4
   simp only [Bool.and_eq_true] at h4; exact (pB_iff _).1 h4.2.2.1
 have hn : r.images = [] := by
  have e : (othersD r).images = r.images := by
   unfold othersD; rw [if_neg h2]
   by_cases k3 : r.kind = 3
   · rw [if_pos k3]
   rw [if_neg k3]
   by_cases k4 : r.kind = 4
   · rw [if_pos k4]
   rw [if_neg k4, if_neg h5]
   by_cases k9 : r.kind = 9
   · rw [if_pos k9]
   · rw [if_neg k9]
  rw [← e, h3]; rfl
 rw [hn]; exact ⟨⟨by decide, rfl⟩, fun d hd => by cases hd⟩
end Go.Proofs.YtocekhckmpkbmaaGreat
namespace Go.Proofs.YtocekhckmpkbmaaGreat
open Go.ChangeShapes Go.WideShapes Go.ChangeAt Go.RowKit
theorem secs_doc (n : Nat) (w : World) (hn : n < 4611686018427387904) : Calls Tryz.prog 53 #[.int .i64 n] w (fun e w' => e = .returned (.int .i64 (secs n)) ∧ w' = w) := by
 have h1 : (0 : Int) ≤ n := by omega
 have h2 : ((n : Int) + 51).tdiv 52 = (((n + 51) / 52 : Nat) : Int) := by rw [Int.tdiv_eq_ediv_of_nonneg (by omega)]; omega
 go_enter Tryz.func53, Tryz.ntmps53
 go_wp2; go_ret; exact ⟨congrArg (fun z : Int => Ending.returned (.int .i64 z)) (by unfold secs; omega), rfl⟩
theorem bytes_all (v : RecV) (V : List ImgV) (r : RecD) (w : World) (h : v.On w V r) (hlay : LayOk r) : Calls Tryz.prog 18 #[v.val] w (LaidPost r w) := by
 obtain ⟨kind, lsn, txn, prev, next, iq, im, ic, sq, sn, sc, nextTxn, tq, tn, tc, dq, dn, dc⟩ := v; have e1 : lsn = r.lsn := h.lsn; have e2 : prev = r.prev := h.prev; have e3 : next = r.next := h.next; obtain ⟨_, ⟨h1, _⟩, _, ⟨h2, _⟩, ⟨h3, _⟩, _⟩ := h.ints; obtain ⟨ln, rfl⟩ := Int.eq_ofNat_of_zero_le (show 0 ≤ lsn by omega); obtain ⟨pn, rfl⟩ := Int.eq_ofNat_of_zero_le (show 0 ≤ prev by omega); obtain ⟨nx, rfl⟩ := Int.eq_ofNat_of_zero_le (show 0 ≤ next by omega); exact bytes12 kind txn nextTxn ln pn nx iq sq tq dq im ic sn sc tn tc dn dc V r w h hlay
set_option maxRecDepth 100000 in
set_option maxHeartbeats 4000000 in
theorem cost_doc (v : RecV) (V : List ImgV) (r : RecD) (w : World) (h : v.On w V r) (hlay : LayOk r) :
 Calls Tryz.prog 24 #[v.val] w (fun e w' => e = .returned (.int .i64 (secs (encRec r).length : Int)) ∧ Below w.heap.size w w') := by
 obtain ⟨kind, lsn, txn, prev, next, iq, im, ic, sq, sn, sc, nextTxn, tq, tn, tc, dq, dn, dc⟩ := v; obtain ⟨W, hW⟩ : ∃ W, w.alloc (.cells #[.int .i64 kind, .int .u64 lsn, .int .i64 txn, .int .u64 prev, .int .u64 next, .slice iq im ic, .slice sq sn sc, .int .i64 nextTxn, .slice tq tn tc, .slice dq dn dc] 30) = W := ⟨_, rfl⟩; have hbx := lh (one_box (xs := [.int .i64 kind, .int .u64 lsn, .int .i64 txn, .int .u64 prev, .int .u64 next, .slice iq im ic, .slice sq sn sc, .int .i64 nextTxn, .slice tq tn tc, .slice dq dn dc]) hW); have hs : (Tryz.prog.info? 30).map (·.size) = some ([.int .i64 kind, .int .u64 lsn, .int .i64 txn, .int .u64 prev, .int .u64 next, .slice iq im ic, .slice sq sn sc, .int .i64 nextTxn, .slice tq tn tc, .slice dq dn dc] : List Value).length := sizeRec ⟨kind, lsn, txn, prev, next, iq, im, ic, sq, sn, sc, nextTxn, tq, tn, tc, dq, dn, dc⟩; have hc := lh (bytes_all _ V r W (h.below hbx.out.1 (Nat.le_refl _)) hlay)
 have hb := lh (encRec_len hlay); clear h hlay; show Calls _ _ #[.agg #[.int .i64 kind, .int .u64 lsn, .int .i64 txn, .int .u64 prev, .int .u64 next, .slice iq im ic, .slice sq sn sc, .int .i64 nextTxn, .slice tq tn tc, .slice dq dn dc]] _ _
 go_enter Tryz.func24, Tryz.ntmps24
 go_wp2_with (first
  | (with_reducible refine wpList_load_at rfl 30 (.tmp 1) rfl Tryz.underlying30 rfl hs rfl hbx.out.2.1.all ?_))
 clear hW; refine hc.out.mono ?_; rintro e w1 ⟨q, n, c, rfl, ho, hb1⟩; have hl := holds_len ho.holds.1; have hd := lh (hbx.out.1.trans (hb1.mono hbx.out.1.size)); have hn : n ≤ 4000 := by rw [hl]; exact hb.out
 have hln := lh hl; clear ho hb1 hl hc
 go_wp2_with fail
 refine (secs_doc n w1 (by omega)).mono ?_; rintro e w2 ⟨rfl, rfl⟩; go_wp2; go_ret; obtain rfl := hln.out; exact ⟨rfl, hd.out⟩
end Go.Proofs.YtocekhckmpkbmaaGreat
namespace Go.Proofs.YtocekhckmpkbmaaGreat
open Go.ChangeShapes Go.WideShapes Go.ChangeAt Go.RowKit
theorem befs_on2 {w w' : World} {B : Nat} {q q' : Option Addr} {n c c' : Nat} {V : List ImgV} {L : List ImgD} (h : ImgsOn w q n c V L) (hb : Below w.heap.size w w') (hown : OwnS 62 w' B (.slice q' n c') (V.map befV)) : ImgsOn w' q' n c' (V.map befV) (L.map befD) :=
 ⟨hown.reads, by rw [List.length_map, List.length_map]; exact h.len, fun i v x hv hx => by
  rw [List.getElem?_map] at hv hx
  cases hvi : V[i]? with
  | none => rw [hvi] at hv; cases hv
  | some v0 =>
    cases hxi : L[i]? with
    | none => rw [hxi] at hx; cases hx
    | some x0 =>
      rw [hvi] at hv; rw [hxi] at hx
      cases hv
      cases hx
      have hon := (h.get i v0 x0 hvi hxi).below hb (Nat.le_refl _)
      exact ⟨hon.page, hon.pok, ⟨rfl, RowsOn.none_ _, KidsOn.none_ _⟩, hon.bef⟩⟩
theorem may_steps2 {r : RecD} (hm : mayB r = true) (hk : r.kind = 4) : (∀ s ∈ r.steps, stpB s = true) ∧ r.steps.length ≤ 2 := by
 have h := lay_of hm; unfold LayOk at h; rw [if_neg (by omega), if_pos hk] at h; exact h
def ResDoc (r : RecD) (w : World) (e : Ending) (w' : World) : Prop := e = .returned (.int .i64 (resN r)) ∧ Below w.heap.size w w'
set_option maxRecDepth 100000 in
set_option maxHeartbeats 16000000 in
theorem reserve_doc (v : RecV) (V : List ImgV) (r : RecD) (w : World) (h : v.On w V r) (hm : mayB r = true) :
 Calls Tryz.prog 25 #[v.val] w (ResDoc r w) := by
 obtain ⟨kind, lsn, txn, prev, next, iq, im, ic, sq, sn, sc, nextTxn, tq, tn, tc, dq, dn, dc⟩ := v; obtain ⟨W, hW⟩ : ∃ W, w.alloc (.cells #[.int .i64 kind, .int .u64 lsn, .int .i64 txn, .int .u64 prev, .int .u64 next, .slice iq im ic, .slice sq sn sc, .int .i64 nextTxn, .slice tq tn tc, .slice dq dn dc] 30) = W := ⟨_, rfl⟩; have hbx := lh (one_box (xs := [.int .i64 kind, .int .u64 lsn, .int .i64 txn, .int .u64 prev, .int .u64 next, .slice iq im ic, .slice sq sn sc, .int .i64 nextTxn, .slice tq tn tc, .slice dq dn dc]) hW); have hon := lh (h.below hbx.out.1 (Nat.le_refl _)); have hk0 : Hid (kind = r.kind) := h.kind; have hm' := lh hm; have hkk : Hid (kind = 1 ∨ kind = 2 ∨ kind = 4 ∨ (kind ≠ 1 ∧ kind ≠ 2 ∧ kind ≠ 4)) := by show _ ∨ _; omega
 obtain ⟨wz, hwz⟩ : ∃ y, W.alloc (.cells #[.int .i64 0, .int .u64 0, .int .i64 0, .int .u64 0, .int .u64 0, .slice none 0 0, .slice none 0 0, .int .i64 0, .slice none 0 0, .slice none 0 0] 30) = y := ⟨_, rfl⟩; have hbz := lh (one_box (xs := [.int .i64 0, .int .u64 0, .int .i64 0, .int .u64 0, .int .u64 0, .slice none 0 0, .slice none 0 0, .int .i64 0, .slice none 0 0, .slice none 0 0]) hwz); have hrz : Hid (RowV 30 wz W.heap.size [.int .i64 0, .int .u64 0, .int .i64 0, .int .u64 0, .int .u64 0, .slice none 0 0, .slice none 0 0, .int .i64 0, .slice none 0 0, .slice none 0 0]) := by show RowV _ _ _ _; rw [← hwz]; exact RowV.made W _
 have hszu0 : (Tryz.prog.info? 30).map (·.size) = some ([.int .i64 5, .int .u64 0, .int .i64 0, .int .u64 0, .int .u64 0, .slice none 0 0, .slice none 0 0, .int .i64 0, .slice none 0 0, .slice none 0 0] : List Value).length := sizeRec ⟨5, 0, 0, 0, 0, none, 0, 0, none, 0, 0, 0, none, 0, 0, none, 0, 0⟩; have huone : ∀ x ∈ ([.int .i64 5, .int .u64 0, .int .i64 0, .int .u64 0, .int .u64 0, .slice none 0 0, .slice none 0 0, .int .i64 0, .slice none 0 0, .slice none 0 0] : List Value), x.oneCell' = true := RecV.one ⟨5, 0, 0, 0, 0, none, 0, 0, none, 0, 0, 0, none, 0, 0, none, 0, 0⟩; have hVl : Hid (V.length = im) := hon.out.images.on.len; have hLl : Hid (r.images.length = im) := by have h1 := hon.out.images.len; have h2 := hVl.out; show r.images.length = im; omega
 have hig := lh (may_imgs hm); have him16 : im ≤ 16 := by have h1 := hig.out.1.1; have h2 := hLl.out; omega
 have hdW := lh hbx.out.1; clear h hm; show Calls _ _ #[.agg #[.int .i64 kind, .int .u64 lsn, .int .i64 txn, .int .u64 prev, .int .u64 next, .slice iq im ic, .slice sq sn sc, .int .i64 nextTxn, .slice tq tn tc, .slice dq dn dc]] _ _
 rcases hkk.out with rfl | rfl | rfl | ⟨n1, n2, n4⟩
 · go_enter Tryz.func25, Tryz.ntmps25
   go_wp2_with (first
    | ((with_reducible refine wpList_store_at rfl 30 (.tmp 3) (.tmp 9) rfl (o := 0) (vs := [.int .i64 5, .int .u64 0, .int .i64 0, .int .u64 0, .int .u64 0, .slice none 0 0, .slice none 0 0, .int .i64 0, .slice none 0 0, .slice none 0 0]) rfl rfl hrz.out hszu0 (Nat.le_refl _) huone ?_)
       intro W2 h9 hg9; have hr2 : Hid (RowV 30 W2 W.heap.size [.int .i64 5, .int .u64 0, .int .i64 0, .int .u64 0, .int .u64 0, .slice none 0 0, .slice none 0 0, .int .i64 0, .slice none 0 0, .slice none 0 0]) := h9; have hb2 : Hid (Below W.heap.size W W2) := hbz.out.1.trans (grown_belowN hg9 hbz.out.1.size (fun k e => by cases e; exact Nat.le_refl _)); have d0 := (hbx.out.2.1.below hb2.out (Nat.le_refl _)).cell 0 rfl; have d5 := (hbx.out.2.1.below hb2.out (Nat.le_refl _)).cell 5 rfl; have d6 := (hbx.out.2.1.below hb2.out (Nat.le_refl _)).cell 6 rfl
       clear h9 hg9))
   go_ret; exact ⟨congrArg (fun z : Int => Ending.returned (.int .i64 z)) (by unfold resN; rw [if_pos hk0.out.symm]), hdW.out.trans (hb2.out.mono hdW.out.size)⟩
 · go_enter Tryz.func25, Tryz.ntmps25
   go_wp2_with (first
    | ((with_reducible refine wpList_store_at rfl 30 (.tmp 3) (.tmp 9) rfl (o := 0) (vs := [.int .i64 5, .int .u64 0, .int .i64 0, .int .u64 0, .int .u64 0, .slice none 0 0, .slice none 0 0, .int .i64 0, .slice none 0 0, .slice none 0 0]) rfl rfl hrz.out hszu0 (Nat.le_refl _) huone ?_)
       intro W2 h9 hg9; have hr2 : Hid (RowV 30 W2 W.heap.size [.int .i64 5, .int .u64 0, .int .i64 0, .int .u64 0, .int .u64 0, .slice none 0 0, .slice none 0 0, .int .i64 0, .slice none 0 0, .slice none 0 0]) := h9; have hb2 : Hid (Below W.heap.size W W2) := hbz.out.1.trans (grown_belowN hg9 hbz.out.1.size (fun k e => by cases e; exact Nat.le_refl _)); have d0 := (hbx.out.2.1.below hb2.out (Nat.le_refl _)).cell 0 rfl; have d5 := (hbx.out.2.1.below hb2.out (Nat.le_refl _)).cell 5 rfl; have d6 := (hbx.out.2.1.below hb2.out (Nat.le_refl _)).cell 6 rfl
       clear h9 hg9))
   clear hW hwz d0 d5 d6; have h0 : Hid (Below W.heap.size W W2 ∧ RowV 30 W2 W.heap.size [.int .i64 5, .int .u64 0, .int .i64 0, .int .u64 0, .int .u64 0, .slice none 0 0, .slice none 0 0, .int .i64 0, .slice none 0 0, .slice none 0 0] ∧ OwnS 62 W2 (W.heap.size + 1) (.slice none 0 0) ((V.take 0).map befV)) := ⟨hb2.out, hr2.out, OwnS.nil _ _ _⟩
   go_loopw [19] (fun v wr => ∃ (j : Nat) (q : Option Addr) (c' : Nat), j ≤ im ∧ v = .int .i64 j ∧ Hid (Below W.heap.size W wr ∧ RowV 30 wr W.heap.size [.int .i64 5, .int .u64 0, .int .i64 0, .int .u64 0, .int .u64 0, .slice q j c', .slice none 0 0, .int .i64 0, .slice none 0 0, .slice none 0 0] ∧ OwnS 62 wr (W.heap.size + 1) (.slice q j c') ((V.take j).map befV))) (fun v _ => im - (RowKit.intOf v).toNat)
   case atStart => exact ⟨0, none, 0, Nat.zero_le _, rfl, h0⟩
   case round =>
    obtain ⟨j, q, c', hj, rfl, hst⟩ := hrel; clear h0
    by_cases hlt : j < im
    · obtain ⟨A, ⟨p, ⟨k1, q1, n1, c1, q2, n2, c2⟩, ⟨k3, q3, n3, c3, q4, n4, c4⟩⟩, d, hqA, hx, hdx, hond, hcA⟩ := (hon.out.images.below hst.out.1 (Nat.le_refl _)).at (show j < im from hlt)
      subst hqA; have hcA : Hid (∀ j' x, ([.int .i64 p, .int .i64 k1, .slice q1 n1 c1, .slice q2 n2 c2, .int .i64 k3, .slice q3 n3 c3, .slice q4 n4 c4] : List Value)[j']? = some x → wr.cell? ((A.add (j * 7)).add j') = some x) := hcA; have hs : (Tryz.prog.info? 62).map (·.size) = some ([.int .i64 p, .int .i64 k1, .slice q1 n1 c1, .slice q2 n2 c2, .int .i64 k3, .slice q3 n3 c3, .slice q4 n4 c4] : List Value).length := sizeImg ⟨p, ⟨k1, q1, n1, c1, q2, n2, c2⟩, ⟨k3, q3, n3, c3, q4, n4, c4⟩⟩; have hx := lh hx; have i0 : (0 : Int) ≤ j := by omega
      have i1 : (j : Int) < im := by omega
      have hd := lh hst.out.1; have hru := lh hst.out.2.1; have hown := lh hst.out.2.2; clear hdx hond hst; obtain ⟨we, hwe⟩ : ∃ x, wr.alloc (.cells #[.int .i64 p, .int .i64 k1, .slice q1 n1 c1, .slice q2 n2 c2, .int .i64 k3, .slice q3 n3 c3, .slice q4 n4 c4] 62) = x := ⟨_, rfl⟩; have hbk := lh (one_box (xs := [.int .i64 p, .int .i64 k1, .slice q1 n1 c1, .slice q2 n2 c2, .int .i64 k3, .slice q3 n3 c3, .slice q4 n4 c4]) hwe); have d0 := hbk.out.2.1.cell 0 rfl; have d5 := (hru.out.below hbk.out.1).cell 5
      have f1 := lh (Boxed.part hbk.out.2.1 (o := 1) (ys := [.int .i64 k1, .slice q1 n1 c1, .slice q2 n2 c2]) (fun j' x hj => by
       match j', hj with
       | 0, hj => exact hj
       | 1, hj => exact hj
       | 2, hj => exact hj
       | j' + 3, hj => simp at hj))
      have z1 := sizeCont (.int .i64 k1) (.slice q1 n1 c1) (.slice q2 n2 c2); obtain ⟨w8, hw8⟩ : ∃ y, we.alloc (.cells #[.int .i64 p, .int .i64 0, .slice none 0 0, .slice none 0 0, .int .i64 k1, .slice q1 n1 c1, .slice q2 n2 c2] 62) = y := ⟨_, rfl⟩; have hb8 : Hid (Below we.heap.size we w8) := by rw [← hw8]; exact (Below.refl _ _).alloc (Nat.le_refl _) _
      have hro8 : RowV 62 w8 we.heap.size (Cel.cells (befV ⟨p, ⟨k1, q1, n1, c1, q2, n2, c2⟩, ⟨k3, q3, n3, c3, q4, n4, c4⟩⟩)) := by rw [← hw8]; exact RowV.made we _
      have hsl8 := lh (OwnS.single hro8).reads; have hown8 := lh ((hown.out.below hbk.out.1).below hb8.out); have hru8 := lh ((hru.out.below hbk.out.1).below hb8.out); have hul : Hid (W.heap.size < wr.heap.size) := hru.out.lt; have hw8s : Hid (W.heap.size + 1 ≤ w8.heap.size) := by have h1 := hul.out; have h2 := hbk.out.1.size; have h3 := hb8.out.size; show _ ≤ _; omega
      have hd8 := lh (below_step hb8.out (below_step hbk.out.1 hd.out))
      have hfq : Hid (∀ k, q.map (·.block) = some k → W.heap.size + 1 ≤ k) := fun k e => by
       cases q with
       | none => cases e
       | some a => have h1 := hown.out.far a rfl; have e : a.block = k := by simpa using e
                   omega
      have l5 : (5 : Nat) < 10 := by decide
      clear hro8
      go_wp2_with (first
       | (with_reducible refine wpList_load_at rfl 62 (.tmp 21) rfl Tryz.underlying62 rfl hs rfl hcA.out ?_)
       | (with_reducible refine wpList_load_at rfl 55 (.tmp 27) rfl Tryz.underlying55 rfl z1 rfl f1.out ?_)
       | (at_builtin
          refine wpList_append_l Tryz.underlying25 infoImg rfl rfl (.tmp 24) (.tmp 30) rfl rfl rfl hown8.out hsl8.out (by omega) (by omega) hw8s.out ?_; intro q9 c9 w9 h9 hg9 hat; have ho9 := lh h9; have hg9' := lh hg9; have hru9 := lh (hru8.out.block (hg9.block _ hru8.out.lt (fun e => by have h1 := hfq.out _ e.symm; omega)))
          clear h9 hg9 hat)
       | ((with_reducible refine wpList_store_f rfl 25 (.tmp 32) (.tmp 31) rfl (g := W.heap.size) (o := 5) (v := .slice q9 (j + 1) c9) rfl rfl hru9.out szImgs (lt10 l5) rfl ?_)
          intro w10 h9 hg9; have hru10 : Hid (RowV 30 w10 W.heap.size [.int .i64 5, .int .u64 0, .int .i64 0, .int .u64 0, .int .u64 0, .slice q9 (j + 1) c9, .slice none 0 0, .int .i64 0, .slice none 0 0, .slice none 0 0]) := h9; have hg10 := lh hg9
          clear h9 hg9))
      have hnew : Hid (Below W.heap.size W w10 ∧ RowV 30 w10 W.heap.size [.int .i64 5, .int .u64 0, .int .i64 0, .int .u64 0, .int .u64 0, .slice q9 (j + 1) c9, .slice none 0 0, .int .i64 0, .slice none 0 0, .slice none 0 0] ∧ OwnS 62 w10 (W.heap.size + 1) (.slice q9 (j + 1) c9) ((V.take (j + 1)).map befV)) := by
       refine ⟨(hd8.out.trans (grown_belowN hg9'.out hd8.out.size (fun k e => Nat.le_trans (Nat.le_succ _) (hfq.out k e)))).trans (grown_belowN hg10.out (Nat.le_trans hd8.out.size hg9'.out.size) (fun k e => by cases e; exact Nat.le_refl _)), hru10.out, ?_⟩; have h1 := ho9.out.kept (w' := w10) (fun a ha => hg10.out.block _ (ho9.out.far a ha).2 (fun e => by have h2 := (ho9.out.far a ha).1; simp only [Option.some.injEq] at e; omega)); rw [List.take_add_one, hx.out, List.map_append]; exact h1
      clear hwe hw8
      go_roundw
      case rel => exact ⟨j + 1, q9, c9, by omega, by go_num, hnew⟩
      case measure => simp [RowKit.intOf]; omega
    · obtain rfl : im = j := by omega
      have hd := lh hst.out.1; have hru := lh hst.out.2.1; have hown := hst.out.2.2; rw [List.take_of_length_le (Nat.le_of_eq hVl.out)] at hown; clear hst; have hdr := lh (hdW.out.trans (hd.out.mono hdW.out.size)); have honu : Hid (RecV.On ⟨5, 0, 0, 0, 0, q, im, c', none, 0, 0, 0, none, 0, 0, none, 0, 0⟩ wr (V.map befV) ⟨5, 0, 0, 0, 0, r.images.map befD, [], 0, [], []⟩) := ⟨rfl, rfl, rfl, rfl, rfl, rfl, ⟨(show I64 (5 : Int) from i64_c (by decide)), u64_zero, i64_zero, u64_zero, u64_zero, i64_zero⟩, befs_on2 hon.out.images hd.out hown, SlOn.none_ _, SlOn.none_ _, SlOn.none_ _, (fun s h => by cases h), (fun s h => by cases h), (fun s h => by cases h)⟩; clear hown
      have hlu : LayOk ⟨5, 0, 0, 0, 0, r.images.map befD, [], 0, [], []⟩ := by
       unfold LayOk; simp only [Int.reduceEq, if_false, if_true]; refine ⟨fun d hd => ?_, by rw [List.length_map, hLl.out]; exact him16⟩; obtain ⟨x, hx, rfl⟩ := List.mem_map.1 hd; exact (hig.out.2 x hx).1
      have hszu : (Tryz.prog.info? 30).map (·.size) = some ([.int .i64 5, .int .u64 0, .int .i64 0, .int .u64 0, .int .u64 0, .slice q im c', .slice none 0 0, .int .i64 0, .slice none 0 0, .slice none 0 0] : List Value).length := sizeRec ⟨5, 0, 0, 0, 0, q, im, c', none, 0, 0, 0, none, 0, 0, none, 0, 0⟩; have hcd := lh (cost_doc _ _ _ wr honu.out hlu); clear hlu
      go_wp2_with (first
       | (with_reducible refine wpList_load_at rfl 30 (.tmp 3) rfl Tryz.underlying30 rfl hszu rfl hru.out.boxed.all ?_))
      refine hcd.out.mono ?_; rintro e w11 ⟨rfl, hb11⟩; have hdE := lh (hdr.out.trans (hb11.mono hdr.out.size)); clear hb11
      go_wp2_with fail
      go_ret; exact ⟨congrArg (fun z : Int => Ending.returned (.int .i64 z)) (und_cost hk0.out.symm rfl rfl), hdE.out⟩
 · go_enter Tryz.func25, Tryz.ntmps25
   go_wp2_with (first
    | ((with_reducible refine wpList_store_at rfl 30 (.tmp 3) (.tmp 9) rfl (o := 0) (vs := [.int .i64 5, .int .u64 0, .int .i64 0, .int .u64 0, .int .u64 0, .slice none 0 0, .slice none 0 0, .int .i64 0, .slice none 0 0, .slice none 0 0]) rfl rfl hrz.out hszu0 (Nat.le_refl _) huone ?_)
       intro W2 h9 hg9; have hr2 : Hid (RowV 30 W2 W.heap.size [.int .i64 5, .int .u64 0, .int .i64 0, .int .u64 0, .int .u64 0, .slice none 0 0, .slice none 0 0, .int .i64 0, .slice none 0 0, .slice none 0 0]) := h9; have hb2 : Hid (Below W.heap.size W W2) := hbz.out.1.trans (grown_belowN hg9 hbz.out.1.size (fun k e => by cases e; exact Nat.le_refl _)); have d0 := (hbx.out.2.1.below hb2.out (Nat.le_refl _)).cell 0 rfl; have d5 := (hbx.out.2.1.below hb2.out (Nat.le_refl _)).cell 5 rfl; have d6 := (hbx.out.2.1.below hb2.out (Nat.le_refl _)).cell 6 rfl
       clear h9 hg9))
   clear hW hwz d0 d5 d6; have hst4 := lh (may_steps2 hm'.out hk0.out.symm); have hsl : Hid (r.steps.length = sn) := hon.out.steps.len; have h0 : Hid (Below W.heap.size W W2) := hb2.out
   go_loopw [41, 6] (fun v8 v3 wr => ∃ (j N : Nat), j ≤ sn ∧ v8 = .int .i64 j ∧ v3 = .int .i64 N ∧ N ≤ 12 * j ∧ Hid (chgs (r.steps.take j) = N) ∧ Hid (Below W.heap.size W wr) ∧ Hid (RowV 30 wr W.heap.size [.int .i64 5, .int .u64 0, .int .i64 0, .int .u64 0, .int .u64 0, .slice none 0 0, .slice none 0 0, .int .i64 0, .slice none 0 0, .slice none 0 0])) (fun v8 _ _ => sn - (RowKit.intOf v8).toNat)
   case atStart => exact ⟨0, 0, Nat.zero_le _, rfl, rfl, Nat.le_refl _, rfl, h0, hr2⟩
   case round =>
    obtain ⟨j, N, hj, rfl, rfl, hNb, hN, hst, hru⟩ := hrel; clear h0
    by_cases hlt : j < sn
    · obtain ⟨A, ⟨kd, ⟨⟨t, id⟩, v, s⟩, by_⟩, hqA, hdx, hcA⟩ := (hon.out.steps.below hst.out (Nat.le_refl _)).at hlt
      subst hqA; have hcA : Hid (∀ j' x, ([.int .i64 kd, .int .i64 t, .int .u16 id, .int .i64 v, .string s, .int .i64 by_] : List Value)[j']? = some x → wr.cell? ((A.add (j * 6)).add j') = some x) := hcA; have hs : (Tryz.prog.info? 70).map (·.size) = some ([.int .i64 kd, .int .i64 t, .int .u16 id, .int .i64 v, .string s, .int .i64 by_] : List Value).length := sizeStep ⟨kd, ⟨⟨t, id⟩, v, s⟩, by_⟩; have hstep : Hid (chgs (r.steps.take (j + 1)) = N + chg ⟨kd, ⟨⟨t, id⟩, v, s⟩, by_⟩) := by show _ = _; rw [chgs_step hdx, hN.out]
      obtain ⟨_, hkd⟩ := stp_kind (hst4.out.1 _ (List.mem_of_getElem? hdx)); have hkd : kd = 1 ∨ kd = 2 ∨ kd = 3 ∨ kd = 4 := hkd; have i0 : (0 : Int) ≤ j := by omega
      have i1 : (j : Int) < sn := by omega
      have i2 : (j : Int) < 2 := by have h1 := hst4.out.2; have h2 := hsl.out; omega
      clear hdx; obtain ⟨we, hwe⟩ : ∃ x, wr.alloc (.cells #[.int .i64 kd, .int .i64 t, .int .u16 id, .int .i64 v, .string s, .int .i64 by_] 70) = x := ⟨_, rfl⟩; have hbk := lh (one_box (xs := [.int .i64 kd, .int .i64 t, .int .u16 id, .int .i64 v, .string s, .int .i64 by_]) hwe); have hd := lh (hst.out.trans (hbk.out.1.mono hst.out.size)); have hru2 := lh (hru.out.below hbk.out.1); have d0 := hbk.out.2.1.cell 0 rfl
      rcases hkd with rfl | rfl | rfl | rfl <;>
      · go_wp2_with (first
         | (with_reducible refine wpList_load_at rfl 70 (.tmp 43) rfl Tryz.underlying70 rfl hs rfl hcA.out ?_))
        go_roundw
        case rel => exact ⟨j + 1, _, by omega, by go_num, by first | (show Value.int .i64 _ = .int .i64 ((N + 1 : Nat) : Int); go_num) | (show Value.int .i64 _ = .int .i64 ((N + 12 : Nat) : Int); go_num), by omega, by have h1 := hstep.out; exact h1, hd, hru2⟩
        case measure => simp [RowKit.intOf]; omega
    · obtain rfl : sn = j := by omega
      have hall : r.steps.take sn = r.steps := List.take_of_length_le (by have h1 := hsl.out; omega); rw [hall] at hN; have hdr := lh (hdW.out.trans (hst.out.mono hdW.out.size)); have honu : Hid (RecV.On ⟨5, 0, 0, 0, 0, none, 0, 0, none, 0, 0, 0, none, 0, 0, none, 0, 0⟩ wr [] ⟨5, 0, 0, 0, 0, [], [], 0, [], []⟩) := ⟨rfl, rfl, rfl, rfl, rfl, rfl, ⟨(show I64 (5 : Int) from i64_c (by decide)), u64_zero, i64_zero, u64_zero, u64_zero, i64_zero⟩, ImgsOn.none_ _, SlOn.none_ _, SlOn.none_ _, SlOn.none_ _, (fun s h => by cases h), (fun s h => by cases h), (fun s h => by cases h)⟩
      have hlu : LayOk ⟨5, 0, 0, 0, 0, [], [], 0, [], []⟩ := by
       unfold LayOk; simp only [Int.reduceEq, if_false, if_true]; exact ⟨(fun d hd => by cases hd), Nat.zero_le _⟩
      have hszu : (Tryz.prog.info? 30).map (·.size) = some ([.int .i64 5, .int .u64 0, .int .i64 0, .int .u64 0, .int .u64 0, .slice none 0 0, .slice none 0 0, .int .i64 0, .slice none 0 0, .slice none 0 0] : List Value).length := sizeRec ⟨5, 0, 0, 0, 0, none, 0, 0, none, 0, 0, 0, none, 0, 0, none, 0, 0⟩; have hcd := lh (bytes_all _ _ _ wr honu.out hlu); have hbl := lh (encRec_len hlu)
      have hle : Hid ((encRec ⟨5, 0, 0, 0, 0, [], [], 0, [], []⟩).length = (encRec (undD r [])).length) := by
       show _ = _; unfold encRec undD; simp only [List.length_append, length_be]; rfl
      clear hlu; have hNb2 : N ≤ 24 := by have h1 := hst4.out.2; have h2 := hsl.out; omega
      go_wp2_with (first
       | (with_reducible refine wpList_load_at rfl 30 (.tmp 3) rfl Tryz.underlying30 rfl hszu rfl hru.out.boxed.all ?_))
      refine hcd.out.mono ?_; rintro e w11 ⟨q, n, c, rfl, ho11, hb11⟩; have hdE := lh (hdr.out.trans (hb11.mono hdr.out.size)); have hln := lh (holds_len ho11.holds.1); have hn40 : n ≤ 4000 := by rw [hln.out]; exact hbl.out
      clear hb11 ho11
      go_wp2_with fail
      have e1 : (n : Int) + min (N : Int) 16 * 83 = ((n + min N 16 * 83 : Nat) : Int) := by omega
      rw [e1]; refine (secs_doc (n + min N 16 * 83) w11 (by omega)).mono ?_; rintro e w12 ⟨rfl, rfl⟩
      go_wp2_with fail
      go_ret; exact ⟨congrArg (fun z : Int => Ending.returned (.int .i64 z)) (by unfold resN; rw [if_neg (by rw [← hk0.out]; decide), if_neg (by rw [← hk0.out]; decide), if_pos hk0.out.symm, hN.out, ← hle.out, ← hln.out]), hdE.out⟩
 · have m1 : (kind == 1) = false := by simpa using n1
   have m2 : (kind == 2) = false := by simpa using n2
   have m4 : (kind == 4) = false := by simpa using n4
   go_enter Tryz.func25, Tryz.ntmps25
   go_wp2_with (first
    | ((with_reducible refine wpList_store_at rfl 30 (.tmp 3) (.tmp 9) rfl (o := 0) (vs := [.int .i64 5, .int .u64 0, .int .i64 0, .int .u64 0, .int .u64 0, .slice none 0 0, .slice none 0 0, .int .i64 0, .slice none 0 0, .slice none 0 0]) rfl rfl hrz.out hszu0 (Nat.le_refl _) huone ?_)
       intro W2 h9 hg9; have hr2 : Hid (RowV 30 W2 W.heap.size [.int .i64 5, .int .u64 0, .int .i64 0, .int .u64 0, .int .u64 0, .slice none 0 0, .slice none 0 0, .int .i64 0, .slice none 0 0, .slice none 0 0]) := h9; have hb2 : Hid (Below W.heap.size W W2) := hbz.out.1.trans (grown_belowN hg9 hbz.out.1.size (fun k e => by cases e; exact Nat.le_refl _)); have d0 := (hbx.out.2.1.below hb2.out (Nat.le_refl _)).cell 0 rfl; have d5 := (hbx.out.2.1.below hb2.out (Nat.le_refl _)).cell 5 rfl; have d6 := (hbx.out.2.1.below hb2.out (Nat.le_refl _)).cell 6 rfl
       clear h9 hg9))
   go_ret; exact ⟨congrArg (fun z : Int => Ending.returned (.int .i64 z)) (by unfold resN; rw [if_neg (by rw [← hk0.out]; exact n1), if_neg (by rw [← hk0.out]; exact n2), if_neg (by rw [← hk0.out]; exact n4)]), hdW.out.trans (hb2.out.mono hdW.out.size)⟩
end Go.Proofs.YtocekhckmpkbmaaGreat
namespace Go.Proofs.YtocekhckmpkbmaaGreat
open Go.ChangeShapes Go.WideShapes Go.ChangeAt Go.RowKit Go.Deep Go.Joins
set_option maxRecDepth 100000
theorem cellsInt : Tryz.prog.cellsOf 3 = 1 := by kernel_rfl
theorem cellsI64 : Tryz.prog.cellsOf 2 = 1 := by kernel_rfl
theorem cellsU16 : Tryz.prog.cellsOf 64 = 1 := by kernel_rfl
theorem cellsStr : Tryz.prog.cellsOf 9 = 1 := by kernel_rfl
theorem cellsKey : Tryz.prog.cellsOf 66 = 2 := by kernel_rfl
theorem cellsRow : Tryz.prog.cellsOf 68 = 4 := by kernel_rfl
theorem cellsKid : Tryz.prog.cellsOf 100 = 3 := by kernel_rfl
theorem cellsCont : Tryz.prog.cellsOf 55 = 3 := by kernel_rfl
theorem cellsRows : Tryz.prog.cellsOf 52 = 1 := by kernel_rfl
theorem cellsKids : Tryz.prog.cellsOf 53 = 1 := by kernel_rfl
theorem i64_of_wf {x : Int} (h : (Lit.int .i64 x).wf = true) : I64 x := by
 have h1 : IntKind.i64.min = -9223372036854775808 := rfl; have h2 : IntKind.i64.max = 9223372036854775807 := rfl; simp only [Lit.wf, Bool.and_eq_true, decide_eq_true_eq] at h; unfold I64; omega
theorem u16_of_wf {x : Int} (h : (Lit.int .u16 x).wf = true) : 0 ≤ x ∧ x < 65536 := by
 have h1 : IntKind.u16.min = 0 := rfl; have h2 : IntKind.u16.max = 65535 := rfl; simp only [Lit.wf, Bool.and_eq_true, decide_eq_true_eq] at h; omega
section
variable {H : Type} {enc : TypeId × Value → H} {W : World}
theorem get_some {α : Type} {l : List α} {i : Nat} (h : i < l.length) : ∃ x, l[i]? = some x := ⟨_, List.getElem?_eq_getElem h⟩
theorem key_cells {fuel : Nat} {cs : List Value} {x : DataW H × List MemPlace} (h : DataW.trod enc Tryz.prog W 0 (fun _ => true) true fuel 66 cs = some x) : ∃ k : KeyD, cs = k.cells ∧ KeyOk k := by
 obtain ⟨xs, n, _, _, hlen, hxl, hg⟩ := DataW.trod_struct Tryz.underlying66 h; rw [cellsKey] at hlen; have hx2 : xs.length = 2 := hxl
 match cs, hlen with
 | [c0, c1], _ =>
   have g0 : DataW.trod enc Tryz.prog W 0 (fun _ => true) true n 3 (([c0, c1].drop 0).take (Tryz.prog.cellsOf 3)) = xs[0]? := hg 0 _ rfl; have g1 : DataW.trod enc Tryz.prog W 0 (fun _ => true) true n 64 (([c0, c1].drop 1).take (Tryz.prog.cellsOf 64)) = xs[1]? := hg 1 _ rfl; obtain ⟨y0, e0⟩ := get_some (l := xs) (i := 0) (by omega); obtain ⟨y1, e1⟩ := get_some (l := xs) (i := 1) (by omega); rw [e0, cellsInt] at g0; rw [e1, cellsU16] at g1; obtain ⟨a, ha, _, wa⟩ := DataW.trod_int Tryz.underlying3 g0; obtain ⟨b, hb, _, wb⟩ := DataW.trod_int Tryz.underlying64 g1; simp at ha hb; subst ha hb; exact ⟨⟨a, b⟩, rfl, i64_of_wf wa, u16_of_wf wb⟩
theorem row_cells {fuel : Nat} {cs : List Value} {x : DataW H × List MemPlace} (h : DataW.trod enc Tryz.prog W 0 (fun _ => true) true fuel 68 cs = some x) : ∃ r : RowD, cs = r.cells ∧ RowOk r := by
 obtain ⟨xs, n, _, _, hlen, hxl, hg⟩ := DataW.trod_struct Tryz.underlying68 h; rw [cellsRow] at hlen; have hx2 : xs.length = 3 := hxl
 match cs, hlen with
 | [c0, c1, c2, c3], _ =>
   have g0 : DataW.trod enc Tryz.prog W 0 (fun _ => true) true n 66 (([c0, c1, c2, c3].drop 0).take (Tryz.prog.cellsOf 66)) = xs[0]? := hg 0 _ rfl; have g1 : DataW.trod enc Tryz.prog W 0 (fun _ => true) true n 2 (([c0, c1, c2, c3].drop 2).take (Tryz.prog.cellsOf 2)) = xs[1]? := hg 1 _ rfl; have g2 : DataW.trod enc Tryz.prog W 0 (fun _ => true) true n 9 (([c0, c1, c2, c3].drop 3).take (Tryz.prog.cellsOf 9)) = xs[2]? := hg 2 _ rfl; obtain ⟨y0, e0⟩ := get_some (l := xs) (i := 0) (by omega); obtain ⟨y1, e1⟩ := get_some (l := xs) (i := 1) (by omega); obtain ⟨y2, e2⟩ := get_some (l := xs) (i := 2) (by omega); rw [e0, cellsKey] at g0; rw [e1, cellsI64] at g1; rw [e2, cellsStr] at g2; obtain ⟨⟨a, b⟩, hk, ok⟩ := key_cells g0; obtain ⟨v, hv, _, wv⟩ := DataW.trod_int Tryz.underlying2 g1; obtain ⟨s, hs, _, ws⟩ := DataW.trod_string Tryz.underlying9 g2; simp [KeyD.cells] at hk hv hs; obtain ⟨rfl, rfl⟩ := hk
   subst hv hs; exact ⟨⟨⟨a, b⟩, v, s⟩, rfl, ok, i64_of_wf wv, ws⟩
theorem kid_cells {fuel : Nat} {cs : List Value} {x : DataW H × List MemPlace} (h : DataW.trod enc Tryz.prog W 0 (fun _ => true) true fuel 100 cs = some x) : ∃ r : KidD, cs = r.cells ∧ KidOk r := by
 obtain ⟨xs, n, _, _, hlen, hxl, hg⟩ := DataW.trod_struct Tryz.underlying100 h; rw [cellsKid] at hlen; have hx2 : xs.length = 2 := hxl
 match cs, hlen with
 | [c0, c1, c2], _ =>
   have g0 : DataW.trod enc Tryz.prog W 0 (fun _ => true) true n 66 (([c0, c1, c2].drop 0).take (Tryz.prog.cellsOf 66)) = xs[0]? := hg 0 _ rfl; have g1 : DataW.trod enc Tryz.prog W 0 (fun _ => true) true n 3 (([c0, c1, c2].drop 2).take (Tryz.prog.cellsOf 3)) = xs[1]? := hg 1 _ rfl; obtain ⟨y0, e0⟩ := get_some (l := xs) (i := 0) (by omega); obtain ⟨y1, e1⟩ := get_some (l := xs) (i := 1) (by omega); rw [e0, cellsKey] at g0; rw [e1, cellsInt] at g1; obtain ⟨⟨a, b⟩, hk, ok⟩ := key_cells g0; obtain ⟨v, hv, _, wv⟩ := DataW.trod_int Tryz.underlying3 g1; simp [KeyD.cells] at hk hv; obtain ⟨rfl, rfl⟩ := hk; subst hv; exact ⟨⟨⟨a, b⟩, v⟩, rfl, ok, i64_of_wf wv⟩
/-- what a slice of whole elements reads as -/
theorem elems_of {α : Type} {cells : α → List Value} {ok : α → Prop} {e sz n : Nat} {a : Addr} (hsz : Tryz.prog.cellsOf e = sz)
 (hd : ∀ (fuel : Nat) (cs : List Value) (x : DataW H × List MemPlace), DataW.trod enc Tryz.prog W 0 (fun _ => true) true fuel e cs = some x → ∃ y, cs = cells y ∧ ok y)
 (hi : ∀ i, i < n → ∃ fuel cs x, W.cells? 0 (a.add (i * sz)) sz = some cs ∧ DataW.trod enc Tryz.prog W 0 (fun _ => true) true fuel e cs = some x) :
 ∃ l : List α, l.length = n ∧ (∀ i y, l[i]? = some y → ok y ∧ ∀ j v, (cells y)[j]? = some v → W.cell? ((a.add (i * sz)).add j) = some v) := by
 have key : ∀ i, i < n → ∃ y : α, ok y ∧ ∀ j v, (cells y)[j]? = some v → W.cell? ((a.add (i * sz)).add j) = some v := fun i h => by
  obtain ⟨fuel, cs, x, hc, ht⟩ := hi i h; obtain ⟨y, rfl, hok⟩ := hd fuel cs x ht; obtain ⟨_, hlen, hat⟩ := World.cells?_some hc; refine ⟨y, hok, fun j v hj => ?_⟩; have hjl : j < sz := by have := (List.getElem?_eq_some_iff.1 hj).1; omega
  rw [hat j hjl, hj]
 subst hsz
 obtain ⟨L, hL⟩ : ∃ L : (i : Nat) → i < n → α, ∀ i h, ok (L i h) ∧ ∀ j v, (cells (L i h))[j]? = some v → W.cell? ((a.add (i * Tryz.prog.cellsOf e)).add j) = some v :=
  ⟨fun i h => Classical.choose (key i h), fun i h => Classical.choose_spec (key i h)⟩
 refine ⟨List.ofFn fun i : Fin n => L i.1 i.2, by simp, fun i y hy => ?_⟩; obtain ⟨hl, hv⟩ := List.getElem?_eq_some_iff.1 hy; simp at hl; have : y = L i hl := by rw [← hv]; simp
 rw [this]; exact hL i hl
theorem list_row {fuel : Nat} {cs : List Value} {x : DataW H × List MemPlace} (hf : DataW.trod enc Tryz.prog W 0 (fun _ => true) true fuel 52 cs = some x) : ∃ q n c l, cs = [.slice q n c] ∧ RowsOn W q n c l := by
 rcases open_slice Tryz.underlying52 hf with ⟨hc, _⟩ | ⟨a, len, cap, m, n, D, Pl, hcs, _, hl, hm, hmm, _, hi⟩
 · exact ⟨none, 0, 0, [], hc, RowsOn.none_ W⟩
 · rw [cellsRow] at hi
   obtain ⟨l, h1, h2⟩ := elems_of (n := len) (cells := RowD.cells) (ok := RowOk) cellsRow (fun fuel cs x h => row_cells h) (fun i hin => by
    obtain ⟨cs, hc, ht⟩ := hi i (by rw [hmm]; split <;> omega)
    exact ⟨n, cs, _, hc, ht⟩)
   exact ⟨some a, len, cap, l, hcs, h1, hl, hm, (fun e => by cases e), fun i r hr => ⟨a, rfl, (h2 i r hr).2⟩, fun r hr => by obtain ⟨i, hi⟩ := List.mem_iff_getElem?.1 hr; exact (h2 i r hi).1⟩
theorem list_kid {fuel : Nat} {cs : List Value} {x : DataW H × List MemPlace} (hf : DataW.trod enc Tryz.prog W 0 (fun _ => true) true fuel 53 cs = some x) : ∃ q n c l, cs = [.slice q n c] ∧ KidsOn W q n c l := by
 rcases open_slice Tryz.underlying53 hf with ⟨hc, _⟩ | ⟨a, len, cap, m, n, D, Pl, hcs, _, hl, hm, hmm, _, hi⟩
 · exact ⟨none, 0, 0, [], hc, KidsOn.none_ W⟩
 · rw [cellsKid] at hi
   obtain ⟨l, h1, h2⟩ := elems_of (n := len) (cells := KidD.cells) (ok := KidOk) cellsKid (fun fuel cs x h => kid_cells h) (fun i hin => by
    obtain ⟨cs, hc, ht⟩ := hi i (by rw [hmm]; split <;> omega)
    exact ⟨n, cs, _, hc, ht⟩)
   exact ⟨some a, len, cap, l, hcs, h1, hl, hm, (fun e => by cases e), fun i r hr => ⟨a, rfl, (h2 i r hr).2⟩, fun r hr => by obtain ⟨i, hi⟩ := List.mem_iff_getElem?.1 hr; exact (h2 i r hi).1⟩
end
end Go.Proofs.YtocekhckmpkbmaaGreat
namespace Go.Proofs.YtocekhckmpkbmaaGreat
open Go.ChangeShapes Go.WideShapes Go.ChangeAt Go.RowKit
theorem own : ownKnob Tryz.prog.godebug = none := by kernel_rfl
theorem laidOut : laidOutB Tryz.prog = true := by kernel_rfl
section
variable {H : Type} {enc : TypeId × Value → H} {P : Program}
theorem trodAll_below (hl : laidOutB P = true) {W W' : World} (hb : Below W.heap.size W W') : ∀ (ts : List TypeId) (vs : List Value) (ds : List (DataW H)) (ps : List MemPlace),
 (∀ t ∈ ts, P.readableRec t = true ∧ t < P.types.size) → DataW.TrodAll enc P W 0 (fun _ => true) true ts vs ds ps → (∀ x ∈ ps, x.block < W.heap.size) →
 DataW.TrodAll enc P W' 0 (fun b => decide (b < W.heap.size)) true ts vs ds ps
 | [], [], [], _, _, h, _ => h
 | t :: ts, v :: vs, d :: ds, ps, hr, h, hlt => by
   obtain ⟨p, q, h1, h2, rfl⟩ := h; have ht := hr t (List.mem_cons_self ..)
   exact ⟨p, q, Below.trod hl ht.1 ht.2 h1 hb (fun x hx => hlt x (List.mem_append.2 (.inl hx))),
    trodAll_below hl hb ts vs ds q (fun t h => hr t (List.mem_cons_of_mem _ h)) h2 (fun x hx => hlt x (List.mem_append.2 (.inr hx))), rfl⟩
 | [], _ :: _, _, _, _, h, _ => by cases h
 | [], [], _ :: _, _, _, h, _ => by cases h
 | _ :: _, [], _, _, _, h, _ => by cases h
 | _ :: _, _ :: _, [], _, _, h, _ => by cases h
/-- THE LAST STEP OF A LAW: true came back, and below the heap's end nothing has turned. -/
theorem law_post {f : Func} {s : ChangeSpec} {W W' : World} {args : Array Value} {ds gs : List (DataW H)} {before : List MemPlace} {tb : TypeId}
 (hl : laidOutB P = true) (hts : ∀ t ∈ f.params.toList, P.readableRec t = true ∧ t < P.types.size) (hvars : s.vars = []) (hres : f.resultTypes = #[tb]) (hb4 : P.underlying tb = some .bool)
 (hW : DataW.Whole enc P f.params.toList s.vars false W args.toList ds gs before)
 (hfn : (s.fn H (ds ++ gs)).results = [.lit (.bool true)] ∧ (s.fn H (ds ++ gs)).args = ds ∧ (s.fn H (ds ++ gs)).vars = []) (hb : Below W.heap.size W W') :
 s.post enc P f false true false false W args (.bool true) W' := by
 have hlt : ∀ x ∈ before, x.block < W.heap.size := fun x hx => hW.lt x hx
 have hW' := hW; obtain ⟨p, q, hA, hV, rfl, _, _⟩ := hW; refine ⟨ds, gs, _, [], p, [], hW', ?_, ?_, ?_, hb.frame _, fun h => by cases h⟩
 · rw [hfn.1, hres]
   exact trodAll_mk1 (shut_bool hb4 true)
 · rw [hfn.2.1]
   exact trodAll_below hl hb _ _ _ _ hts hA (fun x hx => hlt x (List.mem_append.2 (.inl hx)))
 · rw [hfn.2.2, hvars]
   exact rfl
end
end Go.Proofs.YtocekhckmpkbmaaGreat
