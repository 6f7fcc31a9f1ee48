/- Slices whose elements have several cells each: what they hold, what the call itself made, append, load and store of an element; nothing of a program is claimed here. -/
import Derived.Test.YtjhnagipagkhiaaGreatCells
import Derived.Deep.AppendSrc
import Derived.Lib.SlFresh
import Derived.Lib.SlBuf
namespace Go.Proofs.YtjhnagipagkhiaaGreat
open Go.RowKit

/-- elements of s cells each -/
def Each (s : Nat) (L : List (List Value)) : Prop := ∀ e ∈ L, e.length = s ∧ ∀ v ∈ e, v.oneCell' = true

theorem flat_len {s : Nat} : ∀ {L : List (List Value)}, Each s L → L.flatten.length = L.length * s
  | [], _ => by simp
  | e :: L, h => by
    rw [List.flatten_cons, List.length_append, flat_len (fun x hx => h x (List.mem_cons_of_mem _ hx)), (h e (List.mem_cons_self ..)).1, List.length_cons, Nat.succ_mul]
    omega

theorem flat_one {s : Nat} {L : List (List Value)} (h : Each s L) : ∀ v ∈ L.flatten, v.oneCell' = true := by
  intro v hv
  obtain ⟨e, he, hv⟩ := List.mem_flatten.1 hv
  exact (h e he).2 v hv

theorem flat_split {s : Nat} : ∀ {L : List (List Value)} {i : Nat} {e : List Value}, Each s L → L[i]? = some e → ∃ pre rest, L.flatten = pre ++ (e ++ rest) ∧ pre.length = i * s
  | [], _, _, _, h => by simp at h
  | x :: L, 0, e, _, h => by
    simp at h; subst h
    exact ⟨[], L.flatten, by simp, by simp⟩
  | x :: L, i + 1, e, hE, h => by
    obtain ⟨pre, rest, h1, h2⟩ := flat_split (fun y hy => hE y (List.mem_cons_of_mem _ hy)) (by simpa using h : L[i]? = some e)
    refine ⟨x ++ pre, rest, by rw [List.flatten_cons, h1, List.append_assoc], ?_⟩
    rw [List.length_append, h2, (hE x (List.mem_cons_self ..)).1, Nat.succ_mul]
    omega

theorem flat_set {s : Nat} : ∀ {L : List (List Value)} {i : Nat} {e : List Value}, Each s L → e.length = s → i < L.length → splice L.flatten (i * s) e = (L.set i e).flatten
  | [], _, _, _, _, h => by simp at h
  | x :: L, 0, e, hE, he, _ => by
    have hx := (hE x (List.mem_cons_self ..)).1
    unfold splice
    rw [Nat.zero_mul, List.take_zero, List.nil_append, Nat.zero_add, List.flatten_cons, List.set_cons_zero, List.flatten_cons, he, ← hx, List.drop_left]
  | x :: L, i + 1, e, hE, he, h => by
    have hx := (hE x (List.mem_cons_self ..)).1
    have ih := flat_set (L := L) (i := i) (fun y hy => hE y (List.mem_cons_of_mem _ hy)) he (by simpa using h)
    rw [List.set_cons_succ, List.flatten_cons, List.flatten_cons, ← ih]
    unfold splice
    have e1 : (i + 1) * s = x.length + i * s := by rw [hx, Nat.succ_mul]; omega
    rw [e1, List.take_append, List.take_of_length_le (by omega), Nat.add_sub_cancel_left, Nat.add_assoc, List.drop_append, List.drop_of_length_le (by omega), List.nil_append, Nat.add_sub_cancel_left, List.append_assoc]

theorem Each.append {s : Nat} {L M : List (List Value)} (h : Each s L) (k : Each s M) : Each s (L ++ M) := fun e he => (List.mem_append.1 he).elim (h e) (k e)
theorem Each.set {s : Nat} {L : List (List Value)} {i : Nat} {e : List Value} (h : Each s L) (h1 : e.length = s) (h2 : ∀ v ∈ e, v.oneCell' = true) : Each s (L.set i e) := by
  intro x hx
  rcases List.mem_or_eq_of_mem_set hx with hx | rfl
  · exact h x hx
  · exact ⟨h1, h2⟩

/-- The value v is a slice of these elements. -/
def HoldsE (w : World) (v : Value) (L : List (List Value)) : Prop :=
  ∃ (p : Option Addr) (cap : Nat), v = .slice p L.length cap ∧ (p = none → L = []) ∧ ∀ a, p = some a → ∀ j x, L.flatten[j]? = some x → w.cell? (a.add j) = some x

theorem holdsE_len {w : World} {p : Option Addr} {n c : Nat} {L : List (List Value)} (h : HoldsE w (.slice p n c) L) : n = L.length := by
  obtain ⟨_, _, he, _⟩ := h; cases he; rfl

theorem holdsE_below {B : Nat} {w w' : World} {v : Value} {L : List (List Value)} (h : HoldsE w v L) (hb : Below B w w') (hB : w.heap.size ≤ B) : HoldsE w' v L := by
  obtain ⟨p, cap, rfl, h1, h2⟩ := h
  exact ⟨p, cap, rfl, h1, fun a ha j x hx => Lib.Below.cellOf hb (h2 a ha j x hx) hB⟩

/-- one element's cells -/
theorem holdsE_at {s : Nat} {w : World} {p : Option Addr} {n c : Nat} {L : List (List Value)} (h : HoldsE w (.slice p n c) L) (hE : Each s L) {i : Nat} (hi : i < n) :
    ∃ a e, p = some a ∧ L[i]? = some e ∧ ∀ j v, e[j]? = some v → w.cell? ((a.add (i * s)).add j) = some v := by
  obtain ⟨q, cap, he, h1, h2⟩ := h
  cases he
  cases p with
  | none => rw [h1 rfl] at hi; simp at hi
  | some a =>
    obtain ⟨pre, rest, hf, hp⟩ := flat_split hE (List.getElem?_eq_getElem hi)
    refine ⟨a, L[i], rfl, List.getElem?_eq_getElem hi, fun j v hj => ?_⟩
    rw [Addr.add_add, ← hp]
    refine h2 a rfl _ v ?_
    have hl : j < (L[i]).length := (List.getElem?_eq_some_iff.1 hj).1
    rw [hf, List.getElem?_append_right (by omega), Nat.add_sub_cancel_left, List.getElem?_append_left hl, hj]

/-- The slice v holds these elements in a row of its own from block base on. -/
def OwnE (T : TypeId) (s : Nat) (w : World) (base : Nat) (v : Value) (L : List (List Value)) : Prop := w.ownsRow base T s v L.length L.flatten ∧ Each s L

theorem OwnE.holds {T : TypeId} {s : Nat} {w : World} {base : Nat} {q : Option Addr} {n c : Nat} {L : List (List Value)} (h : OwnE T s w base (.slice q n c) L) : HoldsE w (.slice q n c) L ∧ n ≤ c ∧ (∀ a, q = some a → base ≤ a.block ∧ a.block < w.heap.size) := by
  obtain ⟨⟨hlen, ⟨he, h0⟩ | ⟨g, cap, cur, he, hg, hh, hle, hm, hsz, htk⟩⟩, hE⟩ := h
  · cases he
    have : L = [] := List.eq_nil_of_length_eq_zero h0
    subst this
    exact ⟨⟨none, 0, rfl, fun _ => rfl, fun a ha => by cases ha⟩, Nat.le_refl _, fun a ha => by cases ha⟩
  · cases he
    refine ⟨⟨some ⟨g, 0, none⟩, c, rfl, (fun h => by cases h), fun a ha i x hx => ?_⟩, hle, fun a ha => by cases ha; exact ⟨hg, (Array.getElem?_eq_some_iff.1 hh).1⟩⟩
    cases ha
    have hadd : (⟨g, 0, none⟩ : Addr).add i = ⟨g, i, none⟩ := by unfold Addr.add; split <;> simp_all
    have hi : i < L.flatten.length := (List.getElem?_eq_some_iff.1 hx).1
    rw [flat_len hE] at hi
    rw [hadd, cell_of_row w g i cur T (0, 0) hh]
    have h3 := congrArg (·[i]?) htk
    change (cur.toList.take (L.length * s))[i]? = L.flatten[i]? at h3
    rw [List.getElem?_take_of_lt hi] at h3
    rw [← Array.getElem?_toList, h3, hx]

theorem OwnE.shape {T : TypeId} {s : Nat} {w : World} {base : Nat} {v : Value} {L : List (List Value)} (h : OwnE T s w base v L) : ∃ q c, v = .slice q L.length c := by
  obtain ⟨⟨hlen, ⟨he, h0⟩ | ⟨g, cap, cur, he, _⟩⟩, _⟩ := h
  · exact ⟨none, 0, by rw [he, h0]⟩
  · exact ⟨_, _, he⟩

theorem OwnE.kept {T : TypeId} {s : Nat} {w w' : World} {base : Nat} {q : Option Addr} {n c : Nat} {L : List (List Value)} (h : OwnE T s w base (.slice q n c) L) (hb : ∀ a, q = some a → w'.heap[a.block]? = w.heap[a.block]?) : OwnE T s w' base (.slice q n c) L := by
  obtain ⟨⟨hlen, ⟨he, h0⟩ | ⟨g, cap, cur, he, hg, hh, r⟩⟩, hE⟩ := h
  · exact ⟨⟨hlen, Or.inl ⟨he, h0⟩⟩, hE⟩
  · cases he
    exact ⟨⟨hlen, Or.inr ⟨g, c, cur, rfl, hg, by rw [hb _ rfl]; exact hh, r⟩⟩, hE⟩

theorem OwnE.below {T : TypeId} {s : Nat} {w w' : World} {base : Nat} {q : Option Addr} {n c : Nat} {L : List (List Value)} (h : OwnE T s w base (.slice q n c) L) (hb : Below w.heap.size w w') : OwnE T s w' base (.slice q n c) L :=
  h.kept fun a ha => hb.block _ (h.holds.2.2 a ha).2

theorem OwnE.lower {T : TypeId} {s : Nat} {w : World} {base base' : Nat} {v : Value} {L : List (List Value)} (h : OwnE T s w base v L) (hb : base' ≤ base) : OwnE T s w base' v L := by
  obtain ⟨⟨hlen, h0 | ⟨g, cap, cur, he, hg, r⟩⟩, hE⟩ := h
  · exact ⟨⟨hlen, Or.inl h0⟩, hE⟩
  · exact ⟨⟨hlen, Or.inr ⟨g, cap, cur, he, Nat.le_trans hb hg, r⟩⟩, hE⟩

/-- an element stored into a slice of the call's own -/
theorem OwnE.store {T : TypeId} {s : Nat} {w : World} {base : Nat} {q : Option Addr} {n c : Nat} {L : List (List Value)} (h : OwnE T s w base (.slice q n c) L) {i : Nat} (hi : i < n) {e : List Value} (h1 : e.length = s) (h2 : ∀ v ∈ e, v.oneCell' = true) :
    ∃ g cs, q = some ⟨g, 0, none⟩ ∧ base ≤ g ∧ RowV T w g cs ∧ i * s + e.length ≤ cs.length ∧ ∀ w', RowV T w' g (splice cs (i * s) e) → OwnE T s w' base (.slice q n c) (L.set i e) := by
  obtain ⟨⟨hlen, ⟨he, h0⟩ | ⟨g, cap, cur, he, hg, hh, hle, hm, hsz, htk⟩⟩, hE⟩ := h
  · cases he; omega
  · cases he
    have hfl := flat_len hE
    have hmul : (i + 1) * s ≤ L.length * s := Nat.mul_le_mul_right s hi
    have hmul2 : L.length * s ≤ c * s := Nat.mul_le_mul_right s hle
    rw [Nat.succ_mul] at hmul
    have hcl : cur.toList.length = c * s := by simpa using hsz
    refine ⟨g, cur.toList, rfl, hg, by unfold RowV; simpa using hh, by rw [hcl, h1]; omega, fun w' hw => ⟨⟨?_, Or.inr ⟨g, c, (splice cur.toList (i * s) e).toArray, by rw [List.length_set], hg, hw, by rw [List.length_set]; exact hle, hm, ?_, ?_⟩⟩, hE.set h1 h2⟩⟩
    · rw [flat_len (hE.set h1 h2)]
    · rw [List.size_toArray, length_splice _ _ _ (by rw [hcl, h1]; omega), hcl]
    · rw [List.length_set, ← flat_set hE h1 hi]
      have hcur : cur.toList = L.flatten ++ cur.toList.drop (L.length * s) := by
        have := List.take_append_drop (L.length * s) cur.toList
        rw [htk] at this; exact this.symm
      show (splice cur.toList (i * s) e).take (L.length * s) = _
      rw [hcur]
      have : splice (L.flatten ++ cur.toList.drop (L.length * s)) (i * s) e = splice L.flatten (i * s) e ++ cur.toList.drop (L.length * s) := by
        unfold splice
        rw [List.take_append_of_le_length (by rw [hfl]; omega), List.drop_append_of_le_length (by rw [hfl, h1]; omega)]
        simp
      rw [this, List.take_left' (by rw [length_splice _ _ _ (by rw [hfl, h1]; omega), hfl])]

theorem OwnE.empty {T : TypeId} {s : Nat} {w : World} {base : Nat} (hb : base ≤ w.heap.size) : OwnE T s (w.alloc (.cells #[] T)) base (.slice (some ⟨w.heap.size, 0, none⟩) 0 0) [] :=
  ⟨World.ownsRow_made w #[] 0 hb (Nat.zero_le _) (by simp), fun e he => by cases he⟩

def blockOf (q : Option Addr) : Option Nat := q.map (·.block)

section
variable {P : Program} {w : World}

theorem run_append_elems {t T : TypeId} {s bytes : Nat} {z : Value} (ht : P.underlying t = some (.slice T)) (hi : (P.info? T).map (fun i => (i.zero, i.size, i.bytes)) = some (some z, s, bytes)) (hz : z.cells.size = s) (hs : 0 < s)
    {base : Nat} {q0 q : Option Addr} {n0 c0 m d : Nat} {L M : List (List Value)} (ty : TypeId) (hown : OwnE T s w base (.slice q0 n0 c0) L) (hk : HoldsE w (.slice q m d) M) (hM : Each s M) (hbig : (n0 + m) * bytes ≤ 140737488355328) (hbig2 : n0 + m ≤ 140737488355328) (hbase : base ≤ w.heap.size) :
    ∃ q' c' w', (Builtin.append_ #[t, t] ty #[.slice q0 n0 c0, .slice q m d]).run P w = .ok (.slice q' (n0 + m) c') w' ∧ OwnE T s w' base (.slice q' (n0 + m) c') (L ++ M) ∧ w.grownBy w' (blockOf q0) := by
  obtain ⟨i0, hi0, hz0, hz1, hz2⟩ := info_parts hi
  have e0 := holdsE_len hown.holds.1
  obtain ⟨q1, cap, he, h1, h2⟩ := hk
  cases he
  cases q with
  | none =>
    have hk0 := h1 rfl
    subst hk0
    simp only [List.length_nil, Nat.add_zero, List.append_nil]
    refine ⟨q0, c0, w, ?_, hown, ⟨rfl, rfl, rfl, Nat.le_refl _, fun _ _ _ => rfl⟩⟩
    obtain ⟨⟨_, ⟨he, h0⟩ | ⟨g, cap, cur, he, hg, hh, hle, _⟩⟩, _⟩ := hown
    · cases he
      simp [Builtin.append_, run_underlying ht, sizeOf, typeInfo, hi0, Builtin.lenOf, Builtin.firstCells]
    · cases he
      have h := run_append_room_src (P := P) w t t ty T i0 ht hi0 g 0 _ _ (.slice none 0 d) 0 [] (Src.ofNil w ht d) (by omega) (by intro j hj; simp at hj) (by intro j hj; simp at hj)
      simpa [World.setCells] using h
  | some a =>
    subst e0
    obtain ⟨v', w', hr, hown', hg, _⟩ := run_append_own (P := P) w base t ty T i0 z s bytes ht hi0 hz0 hz1 hz2 hz hs _ L.length L.flatten hown.1 a M.length d M.flatten (flat_len hM)
      (fun j u hj => h2 a rfl j u hj) (flat_one hM) (by unfold maxLen; omega) hbig hbase
    have hown2 : OwnE T s w' base v' (L ++ M) := by
      refine ⟨?_, hown.2.append hM⟩
      rw [List.length_append, List.flatten_append]
      exact hown'
    obtain ⟨q', c', rfl⟩ := hown2.shape
    rw [List.length_append] at hr hown2
    refine ⟨q', c', w', hr, hown2, ?_⟩
    cases q0 <;> exact hg

theorem wpList_append_elems {t T : TypeId} {s bytes : Nat} {z : Value} (ht : P.underlying t = some (.slice T)) (hi : (P.info? T).map (fun i => (i.zero, i.size, i.bytes)) = some (some z, s, bytes)) (hz : z.cells.size = s) (hs : 0 < s)
    {ops : Array Oper} {rest : List Oper} {o : Oper} {a : Act} {Q : Exit → Act → World → Prop} (hgd : o.guard = none) (sl x : Operand)
    (ho : o.op = .call { callee := .builtin .append, args := #[sl, x], argTypes := #[t, t] }) {base : Nat} {q0 q : Option Addr} {n0 c0 m d : Nat} {L M : List (List Value)} (hsl : a.eval sl = .slice q0 n0 c0) (hx : a.eval x = .slice q m d)
    (hown : OwnE T s w base (.slice q0 n0 c0) L) (hk : HoldsE w (.slice q m d) M) (hM : Each s M) (hbig : (n0 + m) * bytes ≤ 140737488355328) (hbig2 : n0 + m ≤ 140737488355328) (hbase : base ≤ w.heap.size)
    (h : ∀ q' c' w', OwnE T s w' base (.slice q' (n0 + m) c') (L ++ M) → w.grownBy w' (blockOf q0) → wpList P ops Q rest (a.put o.dst (.slice q' (n0 + m) c')) w') : wpList P ops Q (o :: rest) a w := by
  obtain ⟨q', c', w', hr, h1, h2⟩ := run_append_elems ht hi hz hs o.type hown hk hM hbig hbig2 hbase
  exact Lib.wpList_append_run_sl w hgd sl x t ho _ _ hsl hx hr (h q' c' w' h1 h2)
end

end Go.Proofs.YtjhnagipagkhiaaGreat
