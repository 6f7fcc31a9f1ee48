/- Kids and contents as they lie in memory, and worlds that differ in one block; nothing of a program is claimed here. -/
import Derived.Test.YtaiepdhmlmnggaaYSam
import Derived.Deep.RegionHeld3
namespace Go.Proofs.Ytaiepdhmlmnggaa
open Go.RowKit

structure KidD where
  least : KeyD
  page : Int
def KidD.cells (k : KidD) : List Value := [.int .i64 k.least.t, .int .u16 k.least.id, .int .i64 k.page]
structure KidOk (k : KidD) : Prop where
  key : KeyOk k.least
  page : I64 k.page
theorem KidD.one (k : KidD) : ∀ v ∈ k.cells, v.oneCell' = true := by
  intro v hv
  simp only [KidD.cells, List.mem_cons, List.not_mem_nil, or_false] at hv
  rcases hv with rfl | rfl | rfl <;> rfl

/-- the cells of a list of kids, one behind the other -/
def cellsK : List KidD → List Value
  | [] => []
  | r :: l => r.cells ++ cellsK l
theorem cellsK_len : ∀ l : List KidD, (cellsK l).length = l.length * 3
  | [] => rfl
  | r :: l => by simp [cellsK, cellsK_len l, KidD.cells]; omega
theorem cellsK_append : ∀ l m : List KidD, cellsK (l ++ m) = cellsK l ++ cellsK m
  | [], m => rfl
  | r :: l, m => by simp [cellsK, cellsK_append l m]
theorem cellsK_one : ∀ l : List KidD, ∀ v ∈ cellsK l, v.oneCell' = true
  | [], v, h => by cases h
  | r :: l, v, h => by
    rcases List.mem_append.1 h with h | h
    · exact r.one v h
    · exact cellsK_one l v h
theorem cellsK_get : ∀ (l : List KidD) (i : Nat) (r : KidD), l[i]? = some r → ∀ j x, r.cells[j]? = some x → (cellsK l)[i * 3 + j]? = some x
  | [], i, r, h, _, _, _ => by simp at h
  | s :: l, 0, r, h, j, x, hx => by
    simp at h; subst h
    have hj : j < s.cells.length := (List.getElem?_eq_some_iff.1 hx).1
    simp only [cellsK, Nat.zero_mul, Nat.zero_add]
    rw [List.getElem?_append_left hj]; exact hx
  | s :: l, i + 1, r, h, j, x, hx => by
    simp at h
    have := cellsK_get l i r h j x hx
    simp only [cellsK]
    rw [List.getElem?_append_right (by simp [KidD.cells]; omega)]
    have e : (i + 1) * 3 + j - s.cells.length = i * 3 + j := by simp [KidD.cells]; omega
    rw [e]; exact this
theorem cellsK_get' : ∀ (l : List KidD) (k : Nat) (x : Value), (cellsK l)[k]? = some x → ∃ i r j, k = i * 3 + j ∧ l[i]? = some r ∧ r.cells[j]? = some x
  | [], k, x, h => by simp [cellsK] at h
  | s :: l, k, x, h => by
    simp only [cellsK] at h
    by_cases hk : k < 3
    · rw [List.getElem?_append_left (by simp [KidD.cells]; omega)] at h
      exact ⟨0, s, k, by omega, rfl, h⟩
    · rw [List.getElem?_append_right (by simp [KidD.cells]; omega)] at h
      have e : k - s.cells.length = k - 3 := by simp [KidD.cells]
      rw [e] at h
      obtain ⟨i, r, j, h1, h2, h3⟩ := cellsK_get' l (k - 3) x h
      exact ⟨i + 1, r, j, by omega, by simpa using h2, h3⟩

/-- a slice that reads as a list of kids -/
structure KidsOn (w : World) (q : Option Addr) (n c : Nat) (l : List KidD) : Prop where
  len : l.length = n
  le : n ≤ c
  cap : c ≤ maxLen
  nil : q = none → c = 0
  get : ∀ i r, l[i]? = some r → ∃ a, q = some a ∧ ∀ j x, r.cells[j]? = some x → w.cell? ((a.add (i * 3)).add j) = some x
  ok : ∀ r ∈ l, KidOk r
theorem KidsOn.none_ (w : World) : KidsOn w none 0 0 [] := ⟨rfl, Nat.le_refl _, Nat.zero_le _, fun _ => rfl, fun i r h => by simp at h, fun r h => by cases h⟩
theorem KidsOn.below {B : Nat} {w w' : World} {q : Option Addr} {n c : Nat} {l : List KidD} (h : KidsOn w q n c l) (hb : Below B w w') (hB : w.heap.size ≤ B) : KidsOn w' q n c l :=
  ⟨h.len, h.le, h.cap, h.nil, fun i r hi => by
    obtain ⟨a, rfl, hc⟩ := h.get i r hi
    exact ⟨a, rfl, fun j x hj => cell_keeps hb hB (hc j x hj)⟩, h.ok⟩
theorem KidsOn.at {w : World} {q : Option Addr} {n c : Nat} {l : List KidD} (h : KidsOn w q n c l) {i : Nat} (hi : i < n) :
    ∃ a r, q = some a ∧ l[i]? = some r ∧ KidOk r ∧ ∀ j x, r.cells[j]? = some x → w.cell? ((a.add (i * 3)).add j) = some x := by
  have hl := h.len
  have hx : l[i]? = some (l[i]'(by omega)) := List.getElem?_eq_getElem (by omega)
  obtain ⟨a, ha, hc⟩ := h.get i _ hx
  exact ⟨a, _, ha, hx, h.ok _ (List.mem_of_getElem? hx), hc⟩
/-- the first rows, or kids, of a slice -/
theorem RowsOn.front {w : World} {q : Option Addr} {n c m : Nat} {l : List RowD} (h : RowsOn w q n c l) (hm : m ≤ n) : RowsOn w q m c (l.take m) :=
  ⟨by rw [List.length_take, h.len]; omega, Nat.le_trans hm h.le, h.cap, h.nil, (fun i r hi => by
    rw [List.getElem?_take] at hi
    split at hi
    · exact h.get i r hi
    · cases hi), fun r hr => h.ok r (List.mem_of_mem_take hr)⟩
theorem KidsOn.front {w : World} {q : Option Addr} {n c m : Nat} {l : List KidD} (h : KidsOn w q n c l) (hm : m ≤ n) : KidsOn w q m c (l.take m) :=
  ⟨by rw [List.length_take, h.len]; omega, Nat.le_trans hm h.le, h.cap, h.nil, (fun i r hi => by
    rw [List.getElem?_take] at hi
    split at hi
    · exact h.get i r hi
    · cases hi), fun r hr => h.ok r (List.mem_of_mem_take hr)⟩

/-- The slice v holds just these kids, in a block of its own from block base on. -/
def OwnK (w : World) (base : Nat) (v : Value) (l : List KidD) : Prop := w.ownsRow base 64 3 v l.length (cellsK l)
theorem OwnK.nil (w : World) (base : Nat) : OwnK w base (.slice none 0 0) [] := World.ownsRow_nil w base _ 3
theorem OwnK.shape {w : World} {base : Nat} {v : Value} {l : List KidD} (h : OwnK w base v l) : ∃ q c, v = .slice q l.length c := by
  obtain ⟨_, ⟨he, h0⟩ | ⟨g, cap, cur, he, _⟩⟩ := h
  · exact ⟨none, 0, by rw [he, h0]⟩
  · exact ⟨_, _, he⟩
theorem OwnK.len {w : World} {base : Nat} {q : Option Addr} {n c : Nat} {l : List KidD} (h : OwnK w base (.slice q n c) l) : n = l.length := by
  obtain ⟨q', c', e⟩ := h.shape
  injection e
theorem OwnK.far {w : World} {base : Nat} {q : Option Addr} {n c : Nat} {l : List KidD} (h : OwnK w base (.slice q n c) l) : ∀ a, q = some a → base ≤ a.block ∧ a.block < w.heap.size := by
  intro a ha
  obtain ⟨_, ⟨he, _⟩ | ⟨g, cap, cur, he, hg, hh, _⟩⟩ := h
  · simp only [Value.slice.injEq] at he; obtain ⟨rfl, _⟩ := he; cases ha
  · simp only [Value.slice.injEq] at he; obtain ⟨rfl, _⟩ := he; cases ha; exact ⟨hg, (Array.getElem?_eq_some_iff.1 hh).1⟩
theorem OwnK.kept {w w' : World} {base : Nat} {q : Option Addr} {n c : Nat} {l : List KidD} (h : OwnK w base (.slice q n c) l) (hb : ∀ a, q = some a → w'.heap[a.block]? = w.heap[a.block]?) : OwnK w' base (.slice q n c) l := by
  obtain ⟨hlen, ⟨he, h0⟩ | ⟨g, cap, cur, he, hg, hh, r⟩⟩ := h
  · exact ⟨hlen, .inl ⟨he, h0⟩⟩
  · simp only [Value.slice.injEq] at he
    obtain ⟨rfl, e2, rfl⟩ := he
    exact ⟨hlen, .inr ⟨g, c, cur, by rw [e2], hg, by rw [hb _ rfl]; exact hh, r⟩⟩
theorem OwnK.below {w w' : World} {base : Nat} {q : Option Addr} {n c : Nat} {l : List KidD} (h : OwnK w base (.slice q n c) l) (hb : Below w.heap.size w w') : OwnK w' base (.slice q n c) l :=
  h.kept fun a ha => hb.block _ (h.far a ha).2
theorem OwnK.mono {w : World} {b b' : Nat} {v : Value} {l : List KidD} (h : OwnK w b v l) (hb : b' ≤ b) : OwnK w b' v l := by
  obtain ⟨hlen, hr | ⟨g, cap, cur, he, hg, r⟩⟩ := h
  · exact ⟨hlen, .inl hr⟩
  · exact ⟨hlen, .inr ⟨g, cap, cur, he, Nat.le_trans hb hg, r⟩⟩
theorem OwnK.reads {w : World} {base : Nat} {q : Option Addr} {n c : Nat} {l : List KidD} (h : OwnK w base (.slice q n c) l) (hok : ∀ r ∈ l, KidOk r) : KidsOn w q n c l := by
  have hl := h.len
  have hc := fun g hg => World.ownsRow.cells (h := h) (g := g) hg
  obtain ⟨hlen, ⟨he, h0⟩ | ⟨g, cap, cur, he, hg, hh, hle, hm, r⟩⟩ := h
  · simp only [Value.slice.injEq] at he
    obtain ⟨rfl, rfl, rfl⟩ := he
    exact ⟨hl.symm, Nat.le_refl _, Nat.zero_le _, fun _ => rfl, fun i r hi => by rw [List.eq_nil_of_length_eq_zero hl.symm] at hi; simp at hi, hok⟩
  · simp only [Value.slice.injEq] at he
    obtain ⟨rfl, e2, rfl⟩ := he
    refine ⟨hl.symm, by omega, hm, (fun e => by cases e), fun i r hi => ⟨_, rfl, fun j x hj => ?_⟩, hok⟩
    rw [Go.Deep.add_add]
    exact hc g rfl _ _ (cellsK_get l i r hi j x hj)

/-- append onto kids of the call's own, from whatever list of kids -/
theorem run_append_k {P : Program} {w : World} {t : TypeId} {bytes : Nat} {z : Value} (ht : P.underlying t = some (.slice 64)) (hi : (P.info? 64).map (fun i => (i.zero, i.size, i.bytes)) = some (some z, 3, bytes)) (hz : z.cells.size = 3) (ty : TypeId)
    {base : Nat} {q0 : Option Addr} {n0 c0 : Nat} {l : List KidD} {q : Option Addr} {m d : Nat} {ms : List KidD} (hown : OwnK w base (.slice q0 n0 c0) l) (hr : KidsOn w q m d ms) (hbig : (n0 + m) * bytes ≤ 140737488355328) (hbig2 : n0 + m ≤ 140737488355328) (hbase : base ≤ w.heap.size) :
    ∃ q' c' w', (Builtin.append_ #[t, t] ty #[.slice q0 n0 c0, .slice q m d]).run P w = .ok (.slice q' (n0 + m) c') w' ∧ OwnK w' base (.slice q' (n0 + m) c') (l ++ ms) ∧ w.grownBy w' (q0.map (·.block)) ∧ (q'.map (·.block) = q0.map (·.block) ∨ q'.map (·.block) = some w.heap.size) := by
  obtain ⟨i0, hi0, hz0, hz1, hz2⟩ := info_parts hi
  have hl := hown.len
  have hm := hr.len
  subst hl
  cases q with
  | none =>
    have h0 : m = 0 := by have := hr.nil rfl; have := hr.le; omega
    subst h0
    obtain rfl := List.eq_nil_of_length_eq_zero hm
    refine ⟨q0, c0, w, ?_, by simpa using hown, ⟨rfl, rfl, rfl, Nat.le_refl _, fun _ _ _ => rfl⟩, .inl rfl⟩
    obtain ⟨hlen, ⟨he, h0⟩ | ⟨g, cap, cur, he, hg, hh, hle, hm2, r⟩⟩ := hown
    · simp only [Value.slice.injEq] at he
      obtain ⟨rfl, h1, rfl⟩ := he
      simp [Builtin.append_, run_underlying ht, sizeOf, typeInfo, hi0, Builtin.lenOf, Builtin.firstCells, h1]
    · simp only [Value.slice.injEq] at he
      obtain ⟨rfl, _, rfl⟩ := he
      simp [Builtin.append_, run_underlying ht, sizeOf, typeInfo, hi0, Builtin.lenOf, Builtin.firstCells, hle, storeCells]
  | some ad =>
    obtain ⟨v', w', hrun, hown', hg, _, hat⟩ := run_append_own_at (P := P) w base t ty 64 i0 z 3 bytes ht hi0 hz0 hz1 hz2 hz (by decide) _ l.length (cellsK l) hown ad m d (cellsK ms) (by rw [cellsK_len, hm]) (fun j u hj => by
      obtain ⟨i, r, k, rfl, h1, h2⟩ := cellsK_get' ms j u hj
      obtain ⟨a', ha', hc⟩ := hr.get i r h1
      cases ha'
      rw [← Go.Deep.add_add]
      exact hc k u h2) (cellsK_one ms) (by unfold maxLen; omega) hbig hbase
    have hown2 : OwnK w' base v' (l ++ ms) := by
      unfold OwnK
      rw [List.length_append, hm, cellsK_append]
      exact hown'
    obtain ⟨q', c', rfl⟩ := hown2.shape
    rw [List.length_append, hm] at hrun hown2
    exact ⟨q', c', w', hrun, hown2, by cases q0 <;> exact hg, by cases q0 <;> cases q' <;> exact hat⟩
theorem wpList_append_k {P : Program} {w : World} {t : TypeId} {bytes : Nat} {z : Value} (ht : P.underlying t = some (.slice 64)) (hi : (P.info? 64).map (fun i => (i.zero, i.size, i.bytes)) = some (some z, 3, bytes)) (hz : z.cells.size = 3)
    {ops : Array Oper} {rest : List Oper} {o : Oper} {a : Act} {Q : Exit → Act → World → Prop} (hgd : o.guard = none) (sl x : Operand)
    (ho : o.op = .call { callee := .builtin .append, args := #[sl, x], argTypes := #[t, t] }) {base : Nat} {q0 : Option Addr} {n0 c0 m d : Nat} {l ms : List KidD} {q : Option Addr} (hsl : a.eval sl = .slice q0 n0 c0) (hx : a.eval x = .slice q m d)
    (hown : OwnK w base (.slice q0 n0 c0) l) (hr : KidsOn w q m d ms) (hbig : (n0 + m) * bytes ≤ 140737488355328) (hbig2 : n0 + m ≤ 140737488355328) (hbase : base ≤ w.heap.size)
    (h : ∀ q' c' w', OwnK w' base (.slice q' (n0 + m) c') (l ++ ms) → w.grownBy w' (q0.map (·.block)) → (q'.map (·.block) = q0.map (·.block) ∨ q'.map (·.block) = some w.heap.size) → wpList P ops Q rest (a.put o.dst (.slice q' (n0 + m) c')) w') : wpList P ops Q (o :: rest) a w := by
  obtain ⟨q', c', w', hrun, h1, h2, h3⟩ := run_append_k ht hi hz o.type hown hr hbig hbig2 hbase
  exact Lib.wpList_append_run_sl w hgd sl x t ho _ _ hsl hx hrun (h q' c' w' h1 h2 h3)
theorem infoKid : (Try.prog.info? 64).map (fun i => (i.zero, i.size, i.bytes)) = some (some (.agg #[.int .i64 0, .int .u16 0, .int .i64 0]), 3, 24) := by kernel_rfl
theorem sizeKid (t id p : Int) : (Try.prog.info? 64).map (·.size) = some [Value.int .i64 t, Value.int .u16 id, Value.int .i64 p].length := by kernel_rfl
theorem sizeCont (a b c : Value) : (Try.prog.info? 25).map (·.size) = some [a, b, c].length := by kernel_rfl
/-! worlds that differ in one block, and in new ones -/
theorem Gr.refl (w : World) (g : Nat) : w.grownBy w (some g) := ⟨rfl, rfl, rfl, Nat.le_refl _, fun _ _ _ => rfl⟩
theorem Gr.trans {a b c : World} {g : Nat} (h : a.grownBy b (some g)) (k : b.grownBy c (some g)) : a.grownBy c (some g) :=
  ⟨k.os.trans h.os, k.tape.trans h.tape, k.output.trans h.output, Nat.le_trans h.size k.size, fun j hj hn => (k.block j (Nat.lt_of_lt_of_le hj h.size) hn).trans (h.block j hj hn)⟩
theorem Gr.after {a b c : World} {g : Nat} (h : Below a.heap.size a b) (k : b.grownBy c (some g)) : a.grownBy c (some g) := Gr.trans (below_grown h _) k
theorem Gr.then {a b c : World} {g : Nat} (h : a.grownBy b (some g)) (k : Below b.heap.size b c) : a.grownBy c (some g) := Gr.trans h (below_grown k _)
theorem Gr.cell {w w' : World} {g : Nat} (h : w.grownBy w' (some g)) {a : Addr} {v : Value} (hne : a.block ≠ g) (hc : w.cell? a = some v) : w'.cell? a = some v := by
  rw [World.cell?_of_block (w := w) (h.block _ (cell_in hc) (fun e => hne (by simpa using e)))]
  exact hc
theorem Gr.own {a b c : World} {g h : Nat} (k : a.grownBy b (some g)) (m : b.grownBy c (some h)) (hh : a.heap.size ≤ h) : a.grownBy c (some g) :=
  ⟨m.os.trans k.os, m.tape.trans k.tape, m.output.trans k.output, Nat.le_trans k.size m.size, fun j hj hn => (m.block j (Nat.lt_of_lt_of_le hj k.size) (fun e => by cases e; omega)).trans (k.block j hj hn)⟩
/-- what is new lies above -/
theorem Gr.below {w u w' : World} {g : Nat} (h : u.grownBy w' (some g)) (hb : Below w.heap.size w u) (hg : w.heap.size ≤ g) : Below w.heap.size w w' :=
  hb.trans (grown_belowN h hb.size fun k e => by cases e; exact hg)
theorem Gr.drew (w : World) (g : Nat) : w.grownBy w.drew (some g) := below_grown (below_drew w) _
theorem Boxed.gr {w w' : World} {b g : Nat} {vs : List Value} (h : Boxed w b vs) (hg : w.grownBy w' (some g)) (hne : b ≠ g) : Boxed w' b vs := fun j x hj => Gr.cell hg (by
  rw [show ((⟨b, 0, none⟩ : Addr).add j).block = b from by unfold Addr.add; split <;> rfl]
  exact hne) (h j x hj)
theorem RowV.gr {T : TypeId} {w w' : World} {b g : Nat} {vs : List Value} (h : RowV T w b vs) (hg : w.grownBy w' (some g)) (hne : b ≠ g) : RowV T w' b vs :=
  h.block (hg.block b (Array.getElem?_eq_some_iff.1 h).1 (fun e => hne (by simpa using e)))
theorem RowsOn.gr {w w' : World} {q : Option Addr} {n c g : Nat} {l : List RowD} (h : RowsOn w q n c l) (hg : w.grownBy w' (some g)) (hne : ∀ a, q = some a → a.block ≠ g) : RowsOn w' q n c l :=
  ⟨h.len, h.le, h.cap, h.nil, fun i r hi => by
    obtain ⟨a, rfl, hc⟩ := h.get i r hi
    refine ⟨a, rfl, fun j x hj => Gr.cell hg ?_ (hc j x hj)⟩
    have : ((a.add (i * 4)).add j).block = a.block := by unfold Addr.add; (repeat' split) <;> rfl
    rw [this]; exact hne a rfl, h.ok⟩
theorem KidsOn.gr {w w' : World} {q : Option Addr} {n c g : Nat} {l : List KidD} (h : KidsOn w q n c l) (hg : w.grownBy w' (some g)) (hne : ∀ a, q = some a → a.block ≠ g) : KidsOn w' q n c l :=
  ⟨h.len, h.le, h.cap, h.nil, fun i r hi => by
    obtain ⟨a, rfl, hc⟩ := h.get i r hi
    refine ⟨a, rfl, fun j x hj => Gr.cell hg ?_ (hc j x hj)⟩
    have : ((a.add (i * 3)).add j).block = a.block := by unfold Addr.add; (repeat' split) <;> rfl
    rw [this]; exact hne a rfl, h.ok⟩
end Go.Proofs.Ytaiepdhmlmnggaa
