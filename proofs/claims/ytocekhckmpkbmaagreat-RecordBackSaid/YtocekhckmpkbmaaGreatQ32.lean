/- Parts of the proof: The laws on records: what few makes of images, steps; lists of images that grow; Plain mathematics of records: what undoes a change, or an operation, and what it costs -/
import Derived.Test.YtocekhckmpkbmaaGreatQ31
namespace Go.Proofs.YtocekhckmpkbmaaGreat
open Go.RowKit
theorem ImgsM.below {w w' : World} {B : Nat} {o : Option Nat} {V : List ImgV} {L : List ImgD} (h : ImgsM w B o V L) (hb : Below w.heap.size w w') : ImgsM w' B o V L :=
 ⟨h.len, h.ap, fun i v x hv hx => (h.on i v x hv hx).below hb (Nat.le_refl _), h.far⟩
/-- one image more; the list's block is o, or a new one then -/
theorem ImgsM.snoc {w w' : World} {B : Nat} {o o' : Option Nat} {V : List ImgV} {L : List ImgD} {v : ImgV} {x : ImgD} (h : ImgsM w B o V L) (hon : ImgOn w v x) (hfar : FarI B v) (hap : ApI o v) (hg : w.grownBy w' o) (hat : o' = o ∨ o' = some w.heap.size) : ImgsM w' B o' (V ++ [v]) (L ++ [x]) := by
 have hml := h.len
 refine ⟨by rw [List.length_append, List.length_append, hml]; rfl, fun u hu => ?_, fun i u y hu hy => ?_, fun u hu => ?_⟩
 · rcases hat with e | e
   · rw [e]
     rcases List.mem_append.1 hu with hu | hu
     · exact h.ap u hu
     · rw [List.mem_singleton.1 hu]; exact hap
   · rw [e]
     rcases List.mem_append.1 hu with hu | hu
     · obtain ⟨i, hi⟩ := List.mem_iff_getElem?.1 hu
       have hlen := (List.getElem?_eq_some_iff.1 hi).1
       exact (h.on i u _ hi (List.getElem?_eq_getElem (by omega))).new
     · rw [List.mem_singleton.1 hu]; exact hon.new
 · rcases get_snoc hu with ⟨h1, h2⟩ | ⟨h1, h2⟩
   · rcases get_snoc hy with ⟨h3, h4⟩ | ⟨h3, _⟩
     · exact (h.on i u y h2 h4).gr0 hg (h.ap u (List.mem_of_getElem? h2))
     · omega
   · rcases get_snoc hy with ⟨h3, _⟩ | ⟨_, h4⟩
     · omega
     · rw [h2, h4]; exact hon.gr0 hg hap
 · rcases List.mem_append.1 hu with hu | hu
   · exact h.far u hu
   · rw [List.mem_singleton.1 hu]; exact hfar
def fewI (d : ImgD) : ImgD := ⟨d.page, fewC d.bef, fewC d.aft⟩
def shortS (s : StepD) : StepD := ⟨s.kind, shortR s.row, s.by_⟩
/-- what few makes of a record -/
def fewRec (r : RecD) : RecD := ⟨r.kind, r.lsn, r.txn, r.prev, r.next, (r.images.take 17).map fewI, (r.steps.take 3).map shortS, r.nextTxn, r.txns.take 9, r.dirty.take 65⟩
/-- steps of which the first have short notes -/
def shortsS (R : List StepD) (j : Nat) : List StepD := (R.take j).map shortS ++ R.drop j
theorem shortsS_at {R : List StepD} {j : Nat} {r : StepD} (h : R[j]? = some r) : (shortsS R j)[j]? = some r ∧ (shortsS R j).set j (shortS r) = shortsS R (j + 1) := by
 obtain ⟨hj, rfl⟩ := List.getElem?_eq_some_iff.1 h
 have hl : ((R.take j).map shortS).length = j := by rw [List.length_map, List.length_take, Nat.min_eq_left (by omega)]
 have hd : R.drop j = R[j] :: R.drop (j + 1) := List.drop_eq_getElem_cons hj
 unfold shortsS
 refine ⟨?_, ?_⟩
 · rw [List.getElem?_append_right (by omega), hl, Nat.sub_self, hd]; rfl
 · rw [List.set_append_right _ _ (by omega), hl, Nat.sub_self, hd, List.set_cons_zero, List.take_add_one, h, List.map_append, List.append_assoc]
   rfl
theorem shortS_ok {s : StepD} (h : StepOk s) : StepOk (shortS s) := ⟨h.kind, shortR_ok h.row, h.by_⟩
theorem few17_step {L : List ImgD} {j : Nat} {d : ImgD} (h : L[j]? = some d) (hj : j ≤ 16) : ((L.take (j + 1)).take 17).map fewI = ((L.take j).take 17).map fewI ++ [fewI d] := by
 rw [List.take_take, List.take_take, Nat.min_eq_right (by omega), Nat.min_eq_right (by omega), List.take_add_one, h, List.map_append]
 rfl
theorem few17_same {L : List ImgD} {j : Nat} (hj : ¬ j ≤ 16) : ((L.take (j + 1)).take 17).map fewI = ((L.take j).take 17).map fewI := by
 rw [List.take_take, List.take_take, Nat.min_eq_left (by omega), Nat.min_eq_left (by omega)]
set_option maxRecDepth 100000 in
theorem slice_steps (p : Option Addr) (n c k : Nat) (hk : k ≤ n) (hn : n ≤ c) (u : World) :
 (Instr.slice 26 (.slice p n c) none (some (.int .i64 (k : Int))) none).run Tryz.prog u = .ok (.slice p k c) u := by
 have h := run_slice_h (P := Tryz.prog) u 26 p n c (by kernel_rfl) .i64 (k : Int) (by omega) (by omega)
 rw [h, show (sizeOf (Tryz.prog.elem 26)).run Tryz.prog u = .ok 6 u by kernel_rfl]
 simp only [Result.andThen, sliced, Int.toNat_natCast, Nat.zero_mul, Nat.sub_zero]
 congr 2
 split
 · rfl
 · cases p <;> simp [add_zero]
set_option maxRecDepth 100000 in
theorem slice_txns (p : Option Addr) (n c k : Nat) (hk : k ≤ n) (hn : n ≤ c) (u : World) :
 (Instr.slice 27 (.slice p n c) none (some (.int .i64 (k : Int))) none).run Tryz.prog u = .ok (.slice p k c) u := by
 have h := run_slice_h (P := Tryz.prog) u 27 p n c (by kernel_rfl) .i64 (k : Int) (by omega) (by omega)
 rw [h, show (sizeOf (Tryz.prog.elem 27)).run Tryz.prog u = .ok 5 u by kernel_rfl]
 simp only [Result.andThen, sliced, Int.toNat_natCast, Nat.zero_mul, Nat.sub_zero]
 congr 2
 split
 · rfl
 · cases p <;> simp [add_zero]
set_option maxRecDepth 100000 in
theorem slice_pgs (p : Option Addr) (n c k : Nat) (hk : k ≤ n) (hn : n ≤ c) (u : World) :
 (Instr.slice 28 (.slice p n c) none (some (.int .i64 (k : Int))) none).run Tryz.prog u = .ok (.slice p k c) u := by
 have h := run_slice_h (P := Tryz.prog) u 28 p n c (by kernel_rfl) .i64 (k : Int) (by omega) (by omega)
 rw [h, show (sizeOf (Tryz.prog.elem 28)).run Tryz.prog u = .ok 2 u by kernel_rfl]
 simp only [Result.andThen, sliced, Int.toNat_natCast, Nat.zero_mul, Nat.sub_zero]
 congr 2
 split
 · rfl
 · cases p <;> simp [add_zero]
end Go.Proofs.YtocekhckmpkbmaaGreat
namespace Go.Proofs.YtocekhckmpkbmaaGreat
open Go.RowKit
theorem secs_mono {a b : Nat} (h : a ≤ b) : secs a ≤ secs b := by
 unfold secs
 have := Nat.div_le_div_right (c := 52) (show a - 1 ≤ b - 1 by omega)
 omega
theorem secs_pos (n : Nat) : 1 ≤ secs n := by unfold secs; omega
theorem enc5_len {r : RecD} (h : r.kind = 5) : (encRec r).length = 30 + (encL encAft r.images).length := by
 have e : (encRec r).length = 21 + (encRest r).length := by unfold encRec; simp only [List.length_append, length_be]
 rw [e]
 unfold encRest
 rw [h]
 simp only [Int.reduceEq, if_false, if_true, List.length_append, length_be]
 omega
theorem und_cost {r u : RecD} (hr : r.kind = 2) (hu : u.kind = 5) (hi : u.images = r.images.map befD) : (secs (encRec u).length : Int) = resN r := by
 unfold resN
 rw [if_neg (by omega), if_pos hr, enc5_len hu, enc5_len (r := undD r (r.images.map befD)) rfl, hi]
 rfl
theorem wide_cost {r u : RecD} (hr : r.kind = 4) (hu : u.kind = 5) (hg : ∀ d ∈ u.images, GoodC d.aft) (hl : u.images.length ≤ min (chgs r.steps) 16) : (secs (encRec u).length : Int) ≤ resN r := by
 unfold resN
 rw [if_neg (by omega), if_neg (by omega), if_pos hr, enc5_len hu, enc5_len (r := undD r []) rfl]
 have h1 := encL_le (f := encAft) (L := u.images) (b := 83) (fun d hd => by have h1 := encC_len (hg d hd); unfold encAft; rw [List.length_append, length_be]; omega)
 have h2 : 83 * u.images.length ≤ 83 * min (chgs r.steps) 16 := Nat.mul_le_mul_left _ hl
 have h3 : (encL encAft (undD r []).images).length = 0 := rfl
 have h4 := secs_mono (a := 30 + (encL encAft u.images).length) (b := 30 + (encL encAft (undD r []).images).length + min (chgs r.steps) 16 * 83) (by omega)
 omega
/-- what undoes a change -/
def undU (r : RecD) : RecD := ⟨5, r.lsn % 1099511627776 + 1, r.txn, r.lsn, r.prev, r.images.map befD, [], 0, [], []⟩
theorem chain_parts {r : RecD} (h : chainB r = true) : numB r.txn = true ∧ 1 ≤ r.prev ∧ r.prev < r.lsn := by
 unfold chainB at h
 simp only [Bool.and_eq_true, decide_eq_true_eq] at h
 exact h
theorem befD_page (L : List ImgD) : (L.map befD).map (·.page) = L.map (·.page) := by
 rw [List.map_map]; rfl
theorem undU_may {r : RecD} (hm : mayB r = true) (hk : r.kind = 2) (hl : r.lsn < r.lsn % 1099511627776 + 1) (hz : GoodC zeroC) : mayB (undU r) = true := by
 obtain ⟨h1, h2, h3, h4⟩ := may_parts hm
 rw [kindB2 hk] at h4
 simp only [Bool.and_eq_true] at h4
 obtain ⟨hc, hp, hlt⟩ := chain_parts h4.1
 have hi := (pB_iff _).1 h4.2.2
 have hlsn : r.lsn % 1099511627776 + 1 ≤ 1099511627776 := by have := Int.emod_lt_of_pos r.lsn (show (0 : Int) < 1099511627776 by decide); omega
 have heq : r.lsn % 1099511627776 = r.lsn := by
  rcases Int.lt_or_le r.lsn 1099511627776 with h | h
  · exact Int.emod_eq_of_lt (by omega) h
  · have : r.lsn = 1099511627776 := by omega
    rw [this] at hl
    simp at hl
 unfold mayB headB
 rw [kindB5 (r := undU r) rfl]
 have e1 : sameRec (othersD (undU r)) zRec = true := (sameRec_iff _ _).2 rfl
 have e2 : chainB (undU r) = true := by
  unfold chainB
  simp only [Bool.and_eq_true, decide_eq_true_eq]
  refine ⟨hc, ?_, ?_⟩
  · exact h1
  · exact hl
 have e3 : imgsB (undU r).images = true := by
  refine (pB_iff _).2 ⟨⟨?_, ?_⟩, fun d hd => ?_⟩
  · show (r.images.map befD).length ≤ 16
    rw [List.length_map]; exact hi.1.1
  · show riseF (-1) ((r.images.map befD).map (·.page)) = true
    rw [befD_page]; exact hi.1.2
  · obtain ⟨d', h5, rfl⟩ := List.mem_map.1 hd
    exact ⟨hz, (hi.2 d' h5).1⟩
 have e4 : sidesB (undU r).images = true := by
  refine (pB_iff _).2 (fun d hd => ?_)
  obtain ⟨d', h5, rfl⟩ := List.mem_map.1 hd
  rfl
 rw [e1, e2, e3, e4]
 have h6 : (undU r).lsn = r.lsn + 1 := by show r.lsn % 1099511627776 + 1 = _; rw [heq]
 have h7 : (undU r).next = r.prev := rfl
 rw [h6, h7]
 simp only [Bool.and_true, Bool.true_and, Bool.and_eq_true, decide_eq_true_eq]
 omega
/-- the first image of a page -/
def findI : List ImgD → Int → Option ImgD
 | [], _ => none
 | d :: l, p => if d.page = p then some d else findI l p
theorem findI_at {L : List ImgD} {k : Nat} {d : ImgD} {p : Int} (h : L[k]? = some d) : findI (L.drop k) p = if d.page = p then some d else findI (L.drop (k + 1)) p := by
 obtain ⟨hl, rfl⟩ := List.getElem?_eq_some_iff.1 h
 rw [List.drop_eq_getElem_cons hl]
 rfl
theorem findI_end {L : List ImgD} {p : Int} : findI (L.drop L.length) p = none := by rw [List.drop_length]; rfl
theorem findI_rise : ∀ (L : List ImgD) (a : Int), riseF a (L.map (·.page)) = true → ∀ d ∈ L, findI L d.page = some d
 | [], _, _, d, hd => by cases hd
 | x :: l, a, h, d, hd => by
   unfold riseF at h
   simp only [List.map_cons] at h
   split at h
   · cases h
   · unfold findI
     rcases List.mem_cons.1 hd with rfl | hd
     · rw [if_pos rfl]
     · have h2 := riseF_at2 _ _ h d.page (List.mem_map.2 ⟨d, hd, rfl⟩)
       rw [if_neg (by omega)]
       exact findI_rise l x.page h d hd
/-- what Redoes answers -/
noncomputable def redD (r : RecD) (p : Int) : Option ImgD := if mayB r = true then findI r.images p else none
end Go.Proofs.YtocekhckmpkbmaaGreat
