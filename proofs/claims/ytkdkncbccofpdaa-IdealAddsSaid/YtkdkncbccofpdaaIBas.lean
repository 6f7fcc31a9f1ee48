/- Requests, transactions that run alone, and answers, as they lie in memory. -/
import Derived.Test.YtkdkncbccofpdaaRCel
import Derived.Test.YtkdkncbccofpdaaPFx
namespace Go.Proofs.Ytkdkncbccofpdaa
open Go.RowKit
set_option maxRecDepth 100000

theorem one_rowI {w W : World} {T1 : TypeId} {xs : List Value} (h : w.alloc (.cells xs.toArray T1) = W) : Below w.heap.size w W ∧ RowV T1 W w.heap.size xs ∧ W.heap.size = w.heap.size + 1 := by
  subst h
  exact ⟨(Below.refl _ _).alloc (Nat.le_refl _) _, RowV.made w xs, by simp⟩
theorem two_rowsI {w W : World} {T1 T2 : TypeId} {xs ys : List Value} (h : (w.alloc (.cells xs.toArray T1)).alloc (.cells ys.toArray T2) = W) : Below w.heap.size w W ∧ RowV T1 W w.heap.size xs ∧ RowV T2 W (w.heap.size + 1) ys ∧ W.heap.size = w.heap.size + 2 := by
  subst h
  refine ⟨((Below.refl _ _).alloc (Nat.le_refl _) _).alloc (by simp) _, ?_, ?_, by simp⟩
  · exact RowV.below (RowV.made w xs) ((Below.refl _ _).alloc (Nat.le_refl _) _)
  · have := RowV.made (T := T2) (w.alloc (.cells xs.toArray T1)) ys
    simpa using this
theorem four_rowsI {w W : World} {T1 T2 T3 T4 : TypeId} {xs ys zs us : List Value} (h : (((w.alloc (.cells xs.toArray T1)).alloc (.cells ys.toArray T2)).alloc (.cells zs.toArray T3)).alloc (.cells us.toArray T4) = W) :
    Below w.heap.size w W ∧ RowV T1 W w.heap.size xs ∧ RowV T2 W (w.heap.size + 1) ys ∧ RowV T3 W (w.heap.size + 2) zs ∧ RowV T4 W (w.heap.size + 3) us ∧ W.heap.size = w.heap.size + 4 := by
  obtain ⟨V, hV⟩ : ∃ V, (w.alloc (.cells xs.toArray T1)).alloc (.cells ys.toArray T2) = V := ⟨_, rfl⟩
  rw [hV] at h
  obtain ⟨h1, h2, h3, h4⟩ := two_rowsI hV
  obtain ⟨k1, k2, k3, k4⟩ := two_rowsI h
  rw [h4] at k2 k3 k4
  exact ⟨h1.trans (k1.mono h1.size), h2.below k1, h3.below k1, k2, k3, k4⟩

structure ReqD where
  k : Int
  key : KeyD
  to : KeyD
  val : Int
  note : ByteArray
  n : Int
def ReqD.cells (q : ReqD) : List Value := [.int .i64 q.k, .int .i64 q.key.t, .int .u16 q.key.id, .int .i64 q.to.t, .int .u16 q.to.id, .int .i64 q.val, .string q.note, .int .i64 q.n]
structure ReqOk (q : ReqD) : Prop where
  k : I64 q.k
  key : KeyOk q.key
  to : KeyOk q.to
  val : I64 q.val
  note : q.note.size ≤ maxLen
  n : I64 q.n
structure SerD where
  bs : List BdD
  rows : List RowD
  begun : List RowD
  marks : List (List RowD)
  over : Bool
structure AnsD where
  e : Int
  rows : List RowD
  n : Int

instance : Cel BdD := ⟨BdD.cells, 2, fun _ => rfl, fun r v hv => by
  simp only [BdD.cells, List.mem_cons, List.not_mem_nil, or_false] at hv
  rcases hv with rfl | rfl <;> rfl, by decide⟩
/-- a slice, as an element -/
structure SlV where
  q : Option Addr
  n : Nat
  c : Nat
instance : Cel SlV := ⟨fun (v : SlV) => [.slice v.q v.n v.c], 1, fun _ => rfl, fun r v hv => by
  simp only [List.mem_cons, List.not_mem_nil, or_false] at hv
  subst hv; rfl, by decide⟩

theorem SlOn.sch {w : World} {q : Option Addr} {n c : Nat} {l : List BdD} (h : SlOn w q n c l) (hok : ∀ b ∈ l, I64 b.lo ∧ I64 b.hi) : SchOn w q n c l := ⟨h.len, h.le, h.cap, h.get, hok⟩

/-- a slice that reads as a list of lists of rows -/
def MksOn (w : World) (q : Option Addr) (n c : Nat) (L : List (List RowD)) : Prop :=
  ∃ vs : List SlV, SlOn w q n c vs ∧ vs.length = L.length ∧ ∀ (i : Nat) (v : SlV) (l : List RowD), vs[i]? = some v → L[i]? = some l → RowsOn w v.q v.n v.c l
theorem MksOn.below {B : Nat} {w w' : World} {q : Option Addr} {n c : Nat} {L : List (List RowD)} (h : MksOn w q n c L) (hb : Below B w w') (hB : w.heap.size ≤ B) : MksOn w' q n c L := by
  obtain ⟨vs, h1, h2, h3⟩ := h
  exact ⟨vs, h1.below hb hB, h2, fun i v l hv hl => (h3 i v l hv hl).below hb hB⟩
theorem MksOn.len {w : World} {q : Option Addr} {n c : Nat} {L : List (List RowD)} (h : MksOn w q n c L) : L.length = n := by
  obtain ⟨vs, h1, h2, _⟩ := h
  rw [← h2, h1.len]
theorem MksOn.none_ (w : World) : MksOn w none 0 0 [] := ⟨[], SlOn.none_ w, rfl, fun i v l hv => by simp at hv⟩

/-- the rows of a list of the call's own -/
def OwnL (w : World) (q : Option Addr) (n c : Nat) (l : List RowD) : Prop := OwnR 68 w 0 (.slice q n c) l ∧ ∀ r ∈ l, RowOk r
def OwnM (w : World) (q : Option Addr) (n c : Nat) (L : List (List RowD)) : Prop :=
  ∃ vs : List SlV, OwnS 25 w 0 (.slice q n c) vs ∧ vs.length = L.length ∧ ∀ (i : Nat) (v : SlV) (l : List RowD), vs[i]? = some v → L[i]? = some l → OwnL w v.q v.n v.c l
def OwnB (w : World) (q : Option Addr) (n c : Nat) (l : List BdD) : Prop := OwnS 75 w 0 (.slice q n c) l ∧ ∀ b ∈ l, I64 b.lo ∧ I64 b.hi

theorem RowV.ty {T T' : TypeId} {w : World} {g : Nat} {cs cs' : List Value} (h : RowV T w g cs) (h' : RowV T' w g cs') : T = T' := by
  unfold RowV at h h'
  rw [h] at h'
  injection h' with h'
  injection h'
theorem OwnS.gt {α : Type} [Cel α] {T T' : TypeId} {w w' : World} {B g : Nat} {q : Option Addr} {n c : Nat} {l : List α} {cs : List Value} (h : OwnS T w B (.slice q n c) l) (hg : w.grownBy w' (some g)) (hr : RowV T' w g cs) (hne : T ≠ T') : OwnS T w' B (.slice q n c) l :=
  h.kept fun a ha => hg.block _ (h.far a ha).2 (fun e => by
    subst ha
    obtain ⟨k, cur, rfl, _, hk, _⟩ := h.opened
    obtain rfl : k = g := by simpa using e
    exact hne (hk.ty hr))
theorem OwnL.gt {T' : TypeId} {w w' : World} {g : Nat} {q : Option Addr} {n c : Nat} {l : List RowD} {cs : List Value} (h : OwnL w q n c l) (hg : w.grownBy w' (some g)) (hr : RowV T' w g cs) (hne : 68 ≠ T') : OwnL w' q n c l :=
  ⟨h.1.kept fun a ha => hg.block _ (h.1.far a ha).2 (fun e => by
    subst ha
    obtain ⟨k, cur, rfl, _, hk, _⟩ := h.1.opened
    obtain rfl : k = g := by simpa using e
    exact hne (hk.ty hr)), h.2⟩
theorem OwnL.below {w w' : World} {q : Option Addr} {n c : Nat} {l : List RowD} (h : OwnL w q n c l) (hb : Below w.heap.size w w') : OwnL w' q n c l := ⟨h.1.below hb, h.2⟩
theorem OwnL.reads {w : World} {q : Option Addr} {n c : Nat} {l : List RowD} (h : OwnL w q n c l) : RowsOn w q n c l := h.1.reads h.2
theorem OwnL.none_ (w : World) : OwnL w none 0 0 [] := ⟨OwnR.nil _ _ _, fun r h => by cases h⟩
theorem OwnM.below {w w' : World} {q : Option Addr} {n c : Nat} {L : List (List RowD)} (h : OwnM w q n c L) (hb : Below w.heap.size w w') : OwnM w' q n c L := by
  obtain ⟨vs, h1, h2, h3⟩ := h
  exact ⟨vs, h1.below hb, h2, fun i v l hv hl => (h3 i v l hv hl).below hb⟩
theorem OwnM.gt {T' : TypeId} {w w' : World} {g : Nat} {q : Option Addr} {n c : Nat} {L : List (List RowD)} {cs : List Value} (h : OwnM w q n c L) (hg : w.grownBy w' (some g)) (hr : RowV T' w g cs) (hne : 68 ≠ T') (hne2 : 25 ≠ T') : OwnM w' q n c L := by
  obtain ⟨vs, h1, h2, h3⟩ := h
  exact ⟨vs, h1.gt hg hr hne2, h2, fun i v l hv hl => (h3 i v l hv hl).gt hg hr hne⟩
theorem OwnM.reads {w : World} {q : Option Addr} {n c : Nat} {L : List (List RowD)} (h : OwnM w q n c L) : MksOn w q n c L := by
  obtain ⟨vs, h1, h2, h3⟩ := h
  exact ⟨vs, h1.reads, h2, fun i v l hv hl => (h3 i v l hv hl).reads⟩
theorem OwnM.none_ (w : World) : OwnM w none 0 0 [] := ⟨[], OwnS.nil _ _ _, rfl, fun i v l hv => by simp at hv⟩

/-- what a transaction's five words say -/
structure SV where
  tq : Option Addr
  tn : Nat
  tc : Nat
  rq : Option Addr
  rn : Nat
  rc : Nat
  bq : Option Addr
  bn : Nat
  bc : Nat
  mq : Option Addr
  mn : Nat
  mc : Nat
  o : Bool
def SV.cells (v : SV) : List Value := [.slice v.tq v.tn v.tc, .slice v.rq v.rn v.rc, .slice v.bq v.bn v.bc, .slice v.mq v.mn v.mc, .bool v.o]
structure SV.On (v : SV) (w : World) (x : SerD) : Prop where
  sch : SlOn w v.tq v.tn v.tc x.bs
  sok : ∀ b ∈ x.bs, I64 b.lo ∧ I64 b.hi
  rows : RowsOn w v.rq v.rn v.rc x.rows
  begun : RowsOn w v.bq v.bn v.bc x.begun
  marks : MksOn w v.mq v.mn v.mc x.marks
  over : v.o = x.over
structure SV.Own (v : SV) (w : World) (x : SerD) : Prop where
  sch : OwnB w v.tq v.tn v.tc x.bs
  rows : OwnL w v.rq v.rn v.rc x.rows
  begun : OwnL w v.bq v.bn v.bc x.begun
  marks : OwnM w v.mq v.mn v.mc x.marks
  over : v.o = x.over
theorem SV.On.below {B : Nat} {w w' : World} {v : SV} {x : SerD} (h : v.On w x) (hb : Below B w w') (hB : w.heap.size ≤ B) : v.On w' x :=
  ⟨h.sch.below hb hB, h.sok, h.rows.below hb hB, h.begun.below hb hB, h.marks.below hb hB, h.over⟩
theorem SV.Own.below {w w' : World} {v : SV} {x : SerD} (h : v.Own w x) (hb : Below w.heap.size w w') : v.Own w' x :=
  ⟨⟨h.sch.1.below hb, h.sch.2⟩, h.rows.below hb, h.begun.below hb, h.marks.below hb, h.over⟩
theorem SV.Own.gt {T' : TypeId} {w w' : World} {g : Nat} {v : SV} {x : SerD} {cs : List Value} (h : v.Own w x) (hg : w.grownBy w' (some g)) (hr : RowV T' w g cs) (h1 : 68 ≠ T') (h2 : 25 ≠ T') (h3 : 75 ≠ T') : v.Own w' x :=
  ⟨⟨h.sch.1.gt hg hr h3, h.sch.2⟩, h.rows.gt hg hr h1, h.begun.gt hg hr h1, h.marks.gt hg hr h1 h2, h.over⟩
theorem SV.Own.reads {w : World} {v : SV} {x : SerD} (h : v.Own w x) : v.On w x :=
  ⟨h.sch.1.reads, h.sch.2, h.rows.reads, h.begun.reads, h.marks.reads, h.over⟩

/-- so many rows, tables and savepoints that copies have room -/
structure Few (x : SerD) : Prop where
  bs : x.bs.length ≤ 1000000
  rows : x.rows.length ≤ 1000000
  begun : x.begun.length ≤ 1000000
  marks : x.marks.length ≤ 1000000
  each : ∀ l ∈ x.marks, l.length ≤ 1000000

/-- an answer's three words -/
structure AV where
  e : Int
  q : Option Addr
  n : Nat
  c : Nat
  k : Int
def AV.cells (v : AV) : List Value := [.int .i64 v.e, .slice v.q v.n v.c, .int .i64 v.k]
structure AV.Own (v : AV) (w : World) (a : AnsD) : Prop where
  e : v.e = a.e
  rows : OwnL w v.q v.n v.c a.rows
  n : v.k = a.n
theorem AV.Own.below {w w' : World} {v : AV} {a : AnsD} (h : v.Own w a) (hb : Below w.heap.size w w') : v.Own w' a := ⟨h.e, h.rows.below hb, h.n⟩
theorem AV.Own.gt {T' : TypeId} {w w' : World} {g : Nat} {v : AV} {x : AnsD} {cs : List Value} (h : v.Own w x) (hg : w.grownBy w' (some g)) (hr : RowV T' w g cs) (h1 : 68 ≠ T') : v.Own w' x := ⟨h.e, h.rows.gt hg hr h1, h.n⟩
def errA (e : Int) : AnsD := ⟨e, [], 0⟩

theorem sizeSer (a b c d e : Value) : (Try.prog.info? 46).map (·.size) = some [a, b, c, d, e].length := by
  have h : (Try.prog.info? 46).map (·.size) = some 5 := by kernel_rfl
  exact h
theorem sizeReq (a b c d e f g h : Value) : (Try.prog.info? 30).map (·.size) = some [a, b, c, d, e, f, g, h].length := by
  have h : (Try.prog.info? 30).map (·.size) = some 8 := by kernel_rfl
  exact h
theorem sizeAns (a b c : Value) : (Try.prog.info? 35).map (·.size) = some [a, b, c].length := by
  have h : (Try.prog.info? 35).map (·.size) = some 3 := by kernel_rfl
  exact h
theorem sizeWork (v : SV) (q : ReqD) : (Try.prog.info? 94).map (·.size) = some (v.cells ++ q.cells).length := by
  have h : (Try.prog.info? 94).map (·.size) = some 13 := by kernel_rfl
  exact h
theorem ans_one (a : Int) (q : Option Addr) (n c : Nat) (k : Int) : ∀ v ∈ ([.int .i64 a, .slice q n c, .int .i64 k] : List Value), v.oneCell' = true := by
  intro v hv
  simp only [List.mem_cons, List.not_mem_nil, or_false] at hv
  rcases hv with rfl | rfl | rfl <;> rfl
theorem ser_one (v : SV) : ∀ x ∈ v.cells, x.oneCell' = true := by
  intro x hv
  simp only [SV.cells, List.mem_cons, List.not_mem_nil, or_false] at hv
  rcases hv with rfl | rfl | rfl | rfl | rfl <;> rfl
theorem ser_one' (a b c d : Option Addr) (a1 a2 b1 b2 c1 c2 d1 d2 : Nat) (o : Bool) : ∀ x ∈ ([.slice a a1 a2, .slice b b1 b2, .slice c c1 c2, .slice d d1 d2, .bool o] : List Value), x.oneCell' = true := ser_one ⟨a, a1, a2, b, b1, b2, c, c1, c2, d, d1, d2, o⟩
end Go.Proofs.Ytkdkncbccofpdaa
