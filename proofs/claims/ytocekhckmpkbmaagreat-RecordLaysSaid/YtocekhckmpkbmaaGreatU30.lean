/- Parts of the proof: The laws on records: what few makes of images, steps; lists of images that grow; Plain mathematics of records: what undoes a change, or an operation, and what it costs -/
import Derived.Test.YtocekhckmpkbmaaGreatU29
import Derived.Test.YtocekhckmpkbmaaGreatU01
namespace Go.Proofs.YtocekhckmpkbmaaGreat
open Go.RowKit
theorem ImgsM.below {w w' : World} {B : Nat} {o : Option Nat} {V : List ImgV} {L : List ImgD} (h : ImgsM w B o V L) (hb : Below w.heap.size w w') : ImgsM w' B o V L :=
 ⟨h.len, h.ap, fun i v x hv hx => (h.on i v x hv hx).below hb (Nat.le_refl _), h.far⟩
/-- one image more; the list's block is o, or a new one then -/
theorem ImgsM.snoc {w w' : World} {B : Nat} {o o' : Option Nat} {V : List ImgV} {L : List ImgD} {v : ImgV} {x : ImgD} (h : ImgsM w B o V L) (hon : ImgOn w v x) (hfar : FarI B v) (hap : ApI o v) (hg : w.grownBy w' o) (hat : o' = o ∨ o' = some w.heap.size) : ImgsM w' B o' (V ++ [v]) (L ++ [x]) := by
 have hml := h.len; refine ⟨by rw [List.length_append, List.length_append, hml]; rfl, fun u hu => ?_, fun i u y hu hy => ?_, fun u hu => ?_⟩
 · rcases hat with e | e
   · rw [e]; rcases List.mem_append.1 hu with hu | hu
     · exact h.ap u hu
     · rw [List.mem_singleton.1 hu]; exact hap
   · rw [e]; rcases List.mem_append.1 hu with hu | hu
     · obtain ⟨i, hi⟩ := List.mem_iff_getElem?.1 hu; have hlen := (List.getElem?_eq_some_iff.1 hi).1; exact (h.on i u _ hi (List.getElem?_eq_getElem (by omega))).new
     · rw [List.mem_singleton.1 hu]; exact hon.new
 · rcases get_snoc hu with ⟨h1, h2⟩ | ⟨h1, h2⟩
   · rcases get_snoc hy with ⟨h3, h4⟩ | ⟨h3, _⟩
     · exact (h.on i u y h2 h4).gr0 hg (h.ap u (List.mem_of_getElem? h2))
     · omega
   · rcases get_snoc hy with ⟨h3, _⟩ | ⟨_, h4⟩
     · omega
     · rw [h2, h4]; exact hon.gr0 hg hap
 · rcases List.mem_append.1 hu with hu | hu
   · exact h.far u hu
   · rw [List.mem_singleton.1 hu]; exact hfar
def fewI (d : ImgD) : ImgD := ⟨d.page, fewC d.bef, fewC d.aft⟩
def shortS (s : StepD) : StepD := ⟨s.kind, shortR s.row, s.by_⟩
/-- what few makes of a record -/
def fewRec (r : RecD) : RecD := ⟨r.kind, r.lsn, r.txn, r.prev, r.next, (r.images.take 17).map fewI, (r.steps.take 3).map shortS, r.nextTxn, r.txns.take 9, r.dirty.take 65⟩
/-- steps of which the first have short notes -/
def shortsS (R : List StepD) (j : Nat) : List StepD := (R.take j).map shortS ++ R.drop j
theorem shortsS_at {R : List StepD} {j : Nat} {r : StepD} (h : R[j]? = some r) : (shortsS R j)[j]? = some r ∧ (shortsS R j).set j (shortS r) = shortsS R (j + 1) := by
 obtain ⟨hj, rfl⟩ := List.getElem?_eq_some_iff.1 h; have hl : ((R.take j).map shortS).length = j := by rw [List.length_map, List.length_take, Nat.min_eq_left (by omega)]
 have hd : R.drop j = R[j] :: R.drop (j + 1) := List.drop_eq_getElem_cons hj; unfold shortsS; refine ⟨?_, ?_⟩
 · rw [List.getElem?_append_right (by omega), hl, Nat.sub_self, hd]; rfl
 · rw [List.set_append_right _ _ (by omega), hl, Nat.sub_self, hd, List.set_cons_zero, List.take_add_one, h, List.map_append, List.append_assoc]; rfl
theorem shortS_ok {s : StepD} (h : StepOk s) : StepOk (shortS s) := ⟨h.kind, shortR_ok h.row, h.by_⟩
theorem few17_step {L : List ImgD} {j : Nat} {d : ImgD} (h : L[j]? = some d) (hj : j ≤ 16) : ((L.take (j + 1)).take 17).map fewI = ((L.take j).take 17).map fewI ++ [fewI d] := by
 rw [List.take_take, List.take_take, Nat.min_eq_right (by omega), Nat.min_eq_right (by omega), List.take_add_one, h, List.map_append]; rfl
theorem few17_same {L : List ImgD} {j : Nat} (hj : ¬ j ≤ 16) : ((L.take (j + 1)).take 17).map fewI = ((L.take j).take 17).map fewI := by
 rw [List.take_take, List.take_take, Nat.min_eq_left (by omega), Nat.min_eq_left (by omega)]
set_option maxRecDepth 100000 in
theorem slice_steps (p : Option Addr) (n c k : Nat) (hk : k ≤ n) (hn : n ≤ c) (u : World) :
 (Instr.slice 26 (.slice p n c) none (some (.int .i64 (k : Int))) none).run Tryz.prog u = .ok (.slice p k c) u := by
 have h := run_slice_h (P := Tryz.prog) u 26 p n c (by kernel_rfl) .i64 (k : Int) (by omega) (by omega); rw [h, show (sizeOf (Tryz.prog.elem 26)).run Tryz.prog u = .ok 6 u by kernel_rfl]; simp only [Result.andThen, sliced, Int.toNat_natCast, Nat.zero_mul, Nat.sub_zero]; congr 2
 split
 · rfl
 · cases p <;> simp [add_zero]
set_option maxRecDepth 100000 in
theorem slice_txns (p : Option Addr) (n c k : Nat) (hk : k ≤ n) (hn : n ≤ c) (u : World) :
 (Instr.slice 27 (.slice p n c) none (some (.int .i64 (k : Int))) none).run Tryz.prog u = .ok (.slice p k c) u := by
 have h := run_slice_h (P := Tryz.prog) u 27 p n c (by kernel_rfl) .i64 (k : Int) (by omega) (by omega); rw [h, show (sizeOf (Tryz.prog.elem 27)).run Tryz.prog u = .ok 5 u by kernel_rfl]; simp only [Result.andThen, sliced, Int.toNat_natCast, Nat.zero_mul, Nat.sub_zero]; congr 2
 split
 · rfl
 · cases p <;> simp [add_zero]
set_option maxRecDepth 100000 in
theorem slice_pgs (p : Option Addr) (n c k : Nat) (hk : k ≤ n) (hn : n ≤ c) (u : World) :
 (Instr.slice 28 (.slice p n c) none (some (.int .i64 (k : Int))) none).run Tryz.prog u = .ok (.slice p k c) u := by
 have h := run_slice_h (P := Tryz.prog) u 28 p n c (by kernel_rfl) .i64 (k : Int) (by omega) (by omega); rw [h, show (sizeOf (Tryz.prog.elem 28)).run Tryz.prog u = .ok 2 u by kernel_rfl]; simp only [Result.andThen, sliced, Int.toNat_natCast, Nat.zero_mul, Nat.sub_zero]; congr 2
 split
 · rfl
 · cases p <;> simp [add_zero]
end Go.Proofs.YtocekhckmpkbmaaGreat
namespace Go.Proofs.YtocekhckmpkbmaaGreat
open Go.RowKit
end Go.Proofs.YtocekhckmpkbmaaGreat
