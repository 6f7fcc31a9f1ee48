/- settled (bursaryref02), by its contract. -/
import Derived.Test.YtnjandmlhncapaaRefAll
namespace Go.Proofs.Ytnjandmlhncapaa
open Go.RowKit

/-- a sector of the document's disk -/
structure Sc where
  h : List Value
  c : List Value
  is : Bool
def Sc.cells (s : Sc) : List Value := secV s.h s.c s.is
def Sc.Ok (s : Sc) : Prop := Blk s.h ∧ Blk s.c
/-- settled, from place k of those that are pending on -/
def stl (g : Nat → Bool) : Nat → List Sc → List Sc
  | _, [] => []
  | k, s :: r => if s.is then ⟨if g k then s.c else s.h, blk 0, false⟩ :: stl g (k + 1) r else s :: stl g k r
def cnt (S : List Sc) : Nat := S.countP (·.is)

theorem stl_len (g : Nat → Bool) : ∀ (S : List Sc) (k : Nat), (stl g k S).length = S.length
  | [], _ => rfl
  | s :: r, k => by
    unfold stl
    split <;> simp [stl_len g r]
theorem stl_cons (g : Nat → Bool) (k : Nat) (s : Sc) (r : List Sc) : stl g k (s :: r) = if s.is then ⟨if g k then s.c else s.h, blk 0, false⟩ :: stl g (k + 1) r else s :: stl g k r := rfl
theorem stl_append (g : Nat → Bool) : ∀ (A B : List Sc) (k : Nat), stl g k (A ++ B) = stl g k A ++ stl g (k + cnt A) B
  | [], B, k => by simp [stl, cnt]
  | s :: r, B, k => by
    rw [List.cons_append, stl_cons g k s (r ++ B), stl_cons g k s r]
    by_cases hs : s.is = true
    · rw [if_pos hs, if_pos hs, stl_append g r B (k + 1), List.cons_append]
      have : cnt (s :: r) = cnt r + 1 := by unfold cnt; rw [List.countP_cons, if_pos hs]
      rw [this, show k + (cnt r + 1) = k + 1 + cnt r by omega]
    · rw [if_neg hs, if_neg hs, stl_append g r B k, List.cons_append]
      have : cnt (s :: r) = cnt r := by unfold cnt; rw [List.countP_cons, if_neg hs]; rfl
      rw [this]
theorem stl_ok {g : Nat → Bool} : ∀ {S : List Sc} {k : Nat}, (∀ s ∈ S, s.Ok) → ∀ s ∈ stl g k S, s.Ok
  | [], _, _, s, hs => by simp [stl] at hs
  | x :: r, k, h, s, hs => by
    have hx := h x (List.mem_cons_self ..)
    unfold stl at hs
    split at hs
    · rcases List.mem_cons.1 hs with rfl | hs
      · refine ⟨?_, blk_blk 0⟩
        show Blk (if g k = true then x.c else x.h)
        split
        · exact hx.2
        · exact hx.1
      · exact stl_ok (fun y hy => h y (List.mem_cons_of_mem _ hy)) s hs
    · rcases List.mem_cons.1 hs with rfl | hs
      · exact hx
      · exact stl_ok (fun y hy => h y (List.mem_cons_of_mem _ hy)) s hs

/-- what lies there when the first i sectors are settled -/
def half (g : Nat → Bool) (S : List Sc) (i : Nat) : List Sc := stl g 0 (S.take i) ++ S.drop i
theorem half_zero (g : Nat → Bool) (S : List Sc) : half g S 0 = S := by simp [half, stl]
theorem half_all (g : Nat → Bool) (S : List Sc) : half g S S.length = stl g 0 S := by simp [half]
theorem half_len (g : Nat → Bool) (S : List Sc) (i : Nat) (h : i ≤ S.length) : (half g S i).length = S.length := by
  unfold half; rw [List.length_append, stl_len, List.length_take, List.length_drop]; omega
theorem half_at (g : Nat → Bool) {S : List Sc} {i : Nat} {s : Sc} (h : S[i]? = some s) : (half g S i)[i]? = some s := by
  have hi : i < S.length := (List.getElem?_eq_some_iff.1 h).1
  have hl : (stl g 0 (S.take i)).length = i := by rw [stl_len, List.length_take]; omega
  unfold half
  rw [List.getElem?_append_right (by omega), hl, Nat.sub_self, List.getElem?_drop, Nat.add_zero, h]
theorem half_next (g : Nat → Bool) {S : List Sc} {i : Nat} {s : Sc} (h : S[i]? = some s) : half g S (i + 1) = (half g S i).set i (if s.is then ⟨if g (cnt (S.take i)) then s.c else s.h, blk 0, false⟩ else s) := by
  have hi : i < S.length := (List.getElem?_eq_some_iff.1 h).1
  have hl : (stl g 0 (S.take i)).length = i := by rw [stl_len, List.length_take]; omega
  have ht : S.take (i + 1) = S.take i ++ [s] := by rw [List.take_add_one, h]; rfl
  have hd : S.drop i = s :: S.drop (i + 1) := by
    rw [List.drop_eq_getElem_cons hi]
    have := List.getElem?_eq_some_iff.1 h
    rw [this.2]
  unfold half
  rw [ht, stl_append, hd, List.set_append_right _ _ (by omega), hl, Nat.sub_self, List.set_cons_zero, List.append_assoc, Nat.zero_add]
  congr 1
  unfold stl
  by_cases hs : s.is = true
  · rw [if_pos hs, if_pos hs]; rfl
  · rw [if_neg hs, if_neg hs]; rfl
theorem half_ok {g : Nat → Bool} {S : List Sc} (h : ∀ s ∈ S, s.Ok) (i : Nat) : ∀ s ∈ half g S i, s.Ok := by
  intro s hs
  rcases List.mem_append.1 hs with hs | hs
  · exact stl_ok (fun y hy => h y (List.mem_of_mem_take hy)) s hs
  · exact h s (List.mem_of_mem_drop hs)
theorem cnt_next {S : List Sc} {i : Nat} {s : Sc} (h : S[i]? = some s) : cnt (S.take (i + 1)) = cnt (S.take i) + if s.is then 1 else 0 := by
  have ht : S.take (i + 1) = S.take i ++ [s] := by rw [List.take_add_one, h]; rfl
  unfold cnt
  rw [ht, List.countP_append]
  cases hs : s.is <;> simp [hs]
theorem cnt_le (S : List Sc) (i : Nat) : cnt (S.take i) ≤ S.length := Nat.le_trans List.countP_le_length (by rw [List.length_take]; omega)
theorem each_ok {S : List Sc} (h : ∀ s ∈ S, s.Ok) : Each 129 (S.map Sc.cells) := by
  intro e he
  obtain ⟨s, hs, rfl⟩ := List.mem_map.1 he
  exact ⟨sec_len (h s hs).1 (h s hs).2, sec_one (h s hs).1 (h s hs).2⟩

theorem splice_part {cs old b rest : List Value} {o : Nat} (hl : b.length = old.length) (h : ∀ j v, (old ++ rest)[j]? = some v → cs[o + j]? = some v) : splice cs o b = splice cs o (b ++ rest) := by
  unfold splice
  congr 1
  rw [List.append_assoc]
  congr 1
  apply List.ext_getElem?
  intro k
  by_cases hk : k < rest.length
  · rw [List.getElem?_drop, List.getElem?_append_left hk]
    have := h (old.length + k) rest[k] (by rw [List.getElem?_append_right (by omega), Nat.add_sub_cancel_left, List.getElem?_eq_getElem hk])
    rw [List.getElem?_eq_getElem hk, hl, Nat.add_assoc, this]
  · rw [List.getElem?_drop, List.getElem?_append_right (by omega), List.getElem?_drop, List.length_append]
    congr 1
    omega

theorem alloc47 (u : World) : (Instr.alloc 47 true (.tuple #[])).run Try.prog u = .ok (.pointer (some ⟨u.heap.size, 0, none⟩)) (u.alloc (.cells (secV (blk 0) (blk 0) false).toArray 47)) := by kernel_rfl
theorem sec_fits {a b c d : List Value} {x y : Bool} (ha : Blk a) (hb : Blk b) (hc : Blk c) (hd : Blk d) : 0 + (secV a b x).length ≤ (secV c d y).length := by rw [sec_len ha hb, sec_len hc hd]; decide
theorem sec_splice {a b c d : List Value} {x y : Bool} (ha : Blk a) (hb : Blk b) (hc : Blk c) (hd : Blk d) : splice (secV c d y) 0 (secV a b x) = secV a b x := by
  unfold splice
  rw [List.take_zero, List.nil_append, Nat.zero_add, sec_len ha hb, List.drop_of_length_le (by rw [sec_len hc hd]; exact Nat.le_refl _), List.append_nil]
theorem wpList_build_sec {ops : Array Oper} {rest : List Oper} {o : Oper} {a : Act} {w : World} {Q : Exit → Act → World → Prop} (hgd : o.guard = none) {x : Operand} (ho : o.op = .build 47 #[(0, x)]) {h : List Value} (hx : a.eval x = .agg h.toArray) (hh : Blk h)
    (hk : wpList Try.prog ops Q rest (a.put o.dst (.agg (secV h (blk 0) false).toArray)) w) : wpList Try.prog ops Q (o :: rest) a w := by
  refine wpList_plain hgd fun K hK => ?_
  unfold Oper.wp execOp
  have hb := run_build (P := Try.prog) w 47 #[(0, .agg h.toArray)] _ (build_held hh)
  simp only [ho, List.map_toArray, List.map_cons, List.map_nil, hx, Sem.run_bind, hb, Result.andThen_ok, Sem.run_pure]
  exact hK _ _ hk

/-- the call's own variables, and the slice that it made -/
structure StRel (w wr : World) (D Z : List Value) (q : Option Addr) (n c : Nat) (T : List Sc) : Prop where
  below : Below w.heap.size w wr
  d : RowV 31 wr w.heap.size D
  z : RowV 31 wr (w.heap.size + 1) Z
  own : OwnE 47 129 wr (w.heap.size + 1 + 1) (.slice q n c) (T.map Sc.cells)
theorem StRel.stay {w wr w' : World} {D Z : List Value} {q : Option Addr} {n c : Nat} {T : List Sc} (h : StRel w wr D Z q n c T) (hg : Below wr.heap.size wr w') : StRel w w' D Z q n c T :=
  ⟨h.below.trans (hg.mono h.below.size), h.d.below hg, h.z.below hg, h.own.below hg⟩
theorem addr_at (g t : Nat) : (⟨g, 0, none⟩ : Addr).add t = ⟨g, t, none⟩ := by unfold Addr.add; split <;> simp_all
theorem StRel.put {w wr : World} {D Z : List Value} {q : Option Addr} {n c : Nat} {T : List Sc} (h : StRel w wr D Z q n c T) {i : Nat} (hi : i < n) {s : Sc} (hT : T[i]? = some s) (hOk : ∀ x ∈ T, x.Ok) :
    ∃ g cs, q = some ⟨g, 0, none⟩ ∧ w.heap.size + 1 + 1 ≤ g ∧ g < wr.heap.size ∧ RowV 47 wr g cs ∧ (∀ j v, s.cells[j]? = some v → wr.cell? ((⟨g, i * 129, none⟩ : Addr).add j) = some v) ∧ i * 129 + 129 ≤ cs.length ∧
      ∀ (t : Sc), t.Ok → ∀ w', RowV 47 w' g (splice cs (i * 129) t.cells) → Tch [g] wr w' → StRel w w' D Z q n c (T.set i t) := by
  have hs := hOk s (List.mem_of_getElem? hT)
  obtain ⟨g, cs, hq, hb, hr, hf, _⟩ := h.own.store hi (e := s.cells) (sec_len hs.1 hs.2) (sec_one hs.1 hs.2)
  refine ⟨g, cs, hq, hb, hr.lt, hr, ?_, ?_, ?_⟩
  · obtain ⟨a', e, ha, he, hc⟩ := holdsE_at h.own.holds.1 (each_ok hOk) hi
    rw [hq] at ha
    cases ha
    rw [List.getElem?_map, hT] at he
    obtain rfl := Option.some.inj he
    intro j v hj
    rw [← addr_at g (i * 129)]
    exact hc j v hj
  · have : s.cells.length = 129 := sec_len hs.1 hs.2
    omega
  · intro t ht w' hw' htch
    obtain ⟨g', cs', hq', _, hr', _, hback⟩ := h.own.store hi (e := t.cells) (sec_len ht.1 ht.2) (sec_one ht.1 ht.2)
    rw [hq] at hq'
    cases hq'
    obtain rfl : cs = cs' := by
      have h1 := hr.symm.trans hr'
      simp only [Option.some.injEq, Obj.cells.injEq] at h1
      simpa using h1.1
    have ho := hback w' hw'
    rw [← List.map_set] at ho
    have l1 := h.d.lt
    refine ⟨h.below.trans (htch.to_below h.below.size (fun k hk => by rw [List.mem_singleton.1 hk]; omega)), h.d.tch htch (by simp; omega), h.z.tch htch (by simp; omega), ho⟩

theorem st_start (w : World) (D Z : List Value) : Below w.heap.size w ((w.alloc (.cells D.toArray 31)).alloc (.cells Z.toArray 31)) ∧ RowV 31 ((w.alloc (.cells D.toArray 31)).alloc (.cells Z.toArray 31)) w.heap.size D ∧ RowV 31 ((w.alloc (.cells D.toArray 31)).alloc (.cells Z.toArray 31)) (w.heap.size + 1) Z := by
  refine ⟨((Below.refl _ _).alloc (Nat.le_refl _) _).alloc (by simp) _, (RowV.made w _).block (heap_alloc_old _ _ (by simp)), ?_⟩
  have h := RowV.made (T := 31) (w.alloc (.cells D.toArray 31)) Z
  rw [World.size_alloc] at h
  exact h

/-- a list of bools that is read -/
def KeepW (w : World) (v : Value) (ks : List Bool) : Prop :=
  ∃ q c, v = .slice q ks.length c ∧ ks.length ≤ maxLen ∧ (q = none → ks = []) ∧ ∀ a, q = some a → ∀ j x, ks[j]? = some x → w.cell? (a.add j) = some (.bool x)
theorem KeepW.below {B : Nat} {w w' : World} {v : Value} {ks : List Bool} (h : KeepW w v ks) (hb : Below B w w') (hB : w.heap.size ≤ B) : KeepW w' v ks := by
  obtain ⟨q, c, hv, hm, h0, h1⟩ := h
  exact ⟨q, c, hv, hm, h0, fun a ha j x hx => cell_keeps hb hB (h1 a ha j x hx)⟩
theorem Keep.toW {w : World} {v : Value} {ks : List Bool} {L : List Nat} (h : Keep w v ks L) (hm : ks.length ≤ maxLen) : KeepW w v ks := by
  obtain ⟨q, c, hv, h0, h1⟩ := h
  exact ⟨q, c, hv, hm, h0, fun a ha j x hx => (h1 a ha).2 j x hx⟩

/-- does the settling keep the sector at this place? -/
def kept (all : Bool) (ks : List Bool) (k : Nat) : Bool := all || (ks[k]?).getD false
def StPost (w : World) (n : Nat) (T : List Sc) (ops armed failing : Int) (dead : Bool) (e : Ending) (w' : World) : Prop :=
  ∃ q c, e = .returned (.agg #[.slice q n c, .int .i64 ops, .int .i64 armed, .int .i64 failing, .bool dead]) ∧ OwnE 47 129 w' w.heap.size (.slice q n c) (T.map Sc.cells) ∧ Below w.heap.size w w'

end Go.Proofs.Ytnjandmlhncapaa
