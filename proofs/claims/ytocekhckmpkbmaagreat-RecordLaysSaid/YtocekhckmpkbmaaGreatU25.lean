/- Parts of the proof: The reader of record: what each Kind has besides; kinds; The reader of record: read; Check, Undoable, Encode and Cost of record; undone -/
import Derived.Test.YtocekhckmpkbmaaGreatU24
import Derived.Test.YtocekhckmpkbmaaGreatU01
import Derived.Deep.CutRange
import Derived.Deep.DeepCutAuto
import Derived.Test.YtocekhckmpkbmaaGreatU21
namespace Go.Proofs.YtocekhckmpkbmaaGreat
open Go.RowKit Go.ChangeMaps
def kindsR (g : Nat) (j : Int) : Option Value := if j = 9 then some (.func (.func 107) #[.pointer (some ⟨g, 0, none⟩)] #[]) else if j = 8 then some (.func (.func 102) #[.pointer (some ⟨g, 0, none⟩)] #[]) else if j = 7 then some (.func (.func 102) #[.pointer (some ⟨g, 0, none⟩)] #[]) else if j = 6 then some (.func (.func 102) #[.pointer (some ⟨g, 0, none⟩)] #[]) else if j = 5 then some (.func (.func 106) #[.pointer (some ⟨g, 0, none⟩)] #[]) else if j = 4 then some (.func (.func 105) #[.pointer (some ⟨g, 0, none⟩)] #[]) else if j = 3 then some (.func (.func 104) #[.pointer (some ⟨g, 0, none⟩)] #[]) else if j = 2 then some (.func (.func 103) #[.pointer (some ⟨g, 0, none⟩)] #[]) else if j = 1 then some (.func (.func 102) #[.pointer (some ⟨g, 0, none⟩)] #[]) else none
def headD (kind lsn txn prev : Int) : RecD := ⟨kind, lsn, txn, prev, 0, [], [], 0, [], []⟩
/-- what is read of a record besides its head -/
def RestR (r0 : RecD) (t : RSt) (r : RecD) (t' : RSt) : Prop :=
 if r0.kind = 2 then ∃ L, ListW ImageR 16 t L t' ∧ r = ⟨r0.kind, r0.lsn, r0.txn, r0.prev, 0, L, [], 0, [], []⟩
 else if r0.kind = 3 then r = ⟨r0.kind, r0.lsn, r0.txn, r0.prev, t.nm 8, [], [], 0, [], []⟩ ∧ t' = t.nx 8
 else if r0.kind = 4 then ∃ L, ListW StepR 2 (t.nx 8) L t' ∧ r = ⟨r0.kind, r0.lsn, r0.txn, r0.prev, t.nm 8, [], L, 0, [], []⟩
 else if r0.kind = 5 then ∃ L, ListW AfterR 16 (t.nx 8) L t' ∧ r = ⟨r0.kind, r0.lsn, r0.txn, r0.prev, t.nm 8, L, [], 0, [], []⟩
 else if r0.kind = 9 then ∃ L M t1, ListW TxnR 8 (t.nx 4) L t1 ∧ ListW PgR 64 t1 M t' ∧ r = ⟨r0.kind, r0.lsn, r0.txn, r0.prev, 0, [], [], t.nm 4, L, M⟩
 else r = r0 ∧ t' = t
theorem ListQ.all {β : Type} {R : RSt → β → RSt → Prop} {P : β → Prop} (hR : ∀ t x t', R t x t' → P x) : ∀ {n : Nat} {t t' : RSt} {L : List β}, ListQ R n t L t' → ∀ x ∈ L, P x
 | 0, _, _, _, h, x, hx => by rw [h.1] at hx; cases hx
 | n + 1, _, _, _, h, x, hx => by
   obtain ⟨M, y, t1, rfl, h1, h2⟩ := h; rcases List.mem_append.1 hx with hx | hx
   · exact h1.all hR x hx
   · rw [List.mem_singleton.1 hx]; exact hR _ _ _ h2
theorem ListW.all {β : Type} {R : RSt → β → RSt → Prop} {P : β → Prop} (hR : ∀ t x t', R t x t' → P x) {most : Int} {t t' : RSt} {L : List β} (h : ListW R most t L t') : ∀ x ∈ L, P x := by
 rcases h with ⟨_, rfl, _⟩ | ⟨_, h⟩
 · intro x hx; cases hx
 · exact h.all hR
theorem i64_small {x : Int} (h0 : 0 ≤ x) (h1 : x < 4294967296) : I64 x := by unfold I64; omega
theorem rowOk_zero : RowOk zeroR := ⟨⟨i64_zero, ⟨by decide, by decide⟩⟩, i64_zero, Nat.zero_le _⟩
theorem takeRR_ok {t t' : RSt} {r : RowD} (h : TakeRR t r t') : RowOk r := by
 obtain ⟨n, er, ht, _⟩ := h; have ht2 := ht; obtain ⟨c1, er1, s', _, hh⟩ := ht2; rcases hh with ⟨_, rfl, _⟩ | ⟨_, _, _, he⟩
 · exact rowOk_zero
 · rw [he] at ht; exact (takeR_sound ht).2.1
theorem wrap_ok (x : Int) : I64 (IntKind.i64.wrap x) := by rw [IntKind.wrap_i64]; unfold I64; omega
theorem bare_ok (t : RSt) : RowOk (bareD t) := ⟨⟨i64_small (nm1 t).1 (by have := (nm1 t).2; show t.nm 1 < _; omega), nm2 _⟩, i64_zero, Nat.zero_le _⟩
theorem stepR_ok (t : RSt) (x : StepD) (t' : RSt) (h : StepR t x t') : StepOk x := by
 have hk := i64_small (nm1 t).1 (by have := (nm1 t).2; omega); unfold StepR at h
 split at h
 · obtain ⟨r, hr, rfl⟩ := h; exact ⟨hk, takeRR_ok hr, i64_zero⟩
 · split at h
   · rw [h.1]; exact ⟨hk, bare_ok _, wrap_ok _⟩
   · rw [h.1]; exact ⟨hk, bare_ok _, i64_zero⟩
/-- worlds between which just the blocks g, gr, R and new ones changed -/
structure RStep3 (w w' : World) (g gr R : Nat) : Prop where
 os : w'.os = w.os
 tape : w'.tape = w.tape
 output : w'.output = w.output
 size : w.heap.size ≤ w'.heap.size
 block : ∀ k, k < w.heap.size → k ≠ g → k ≠ gr → k ≠ R → w'.heap[k]? = w.heap[k]?
theorem RStep3.of {w w' : World} {g gr R : Nat} (h : RStep w w' g gr) : RStep3 w w' g gr R := ⟨h.os, h.tape, h.output, h.size, fun k a b c _ => h.block k a b c⟩
theorem RStep3.trans {a b c : World} {g gr R : Nat} (h : RStep3 a b g gr R) (k : RStep3 b c g gr R) : RStep3 a c g gr R :=
 ⟨k.os.trans h.os, k.tape.trans h.tape, k.output.trans h.output, Nat.le_trans h.size k.size, fun j hj h1 h2 h3 => (k.block j (Nat.lt_of_lt_of_le hj h.size) h1 h2 h3).trans (h.block j hj h1 h2 h3)⟩
theorem RStep3.set (w : World) (g gr R j : Nat) (x : Value) : RStep3 w (w.setCell ⟨R, j, none⟩ x) g gr R := by
 have h := setCell_grown w R j x; exact ⟨h.os, h.tape, h.output, h.size, fun k a _ _ b => h.block k a (by simpa using b)⟩
theorem ImgsM.onk {T : TypeId} {w w' : World} {B : Nat} {o : Option Nat} {q : Option Addr} {m c : Nat} {V : List ImgV} {L : List ImgD} (h : ImgsM w B o V L) (ho : OwnS T w B (.slice q m c) V) (hk : ∀ k, k < w.heap.size → B ≤ k → w'.heap[k]? = w.heap[k]?) : ImgsOn w' q m c V L := by
 have ho' : OwnS T w' B (.slice q m c) V := ho.kept (fun a ha => hk _ (ho.far a ha).2 (ho.far a ha).1); refine ⟨ho'.reads, h.len, fun i v x hv hx => ?_⟩; have hon := h.on i v x hv hx; have hf := h.far v (List.mem_of_getElem? hv)
 have hr : ∀ {q : Option Addr} {n c : Nat} {l : List RowD}, RowsOn w q n c l → Far B q → RowsOn w' q n c l := fun h hf => ⟨h.len, h.le, h.cap, h.nil, fun i r hi => by
  obtain ⟨a, rfl, hc⟩ := h.get i r hi; refine ⟨a, rfl, fun j x hj => ?_⟩; have hx := hc j x hj; have e : ((a.add (i * 4)).add j).block = a.block := by unfold Addr.add; (repeat' split) <;> rfl
  have hlt := cell_in hx; rw [e] at hlt; rw [World.cell?_of_block (w := w) (by rw [e]; exact hk _ hlt (hf a rfl))]
  exact hx, h.ok⟩
 have hd : ∀ {q : Option Addr} {n c : Nat} {l : List KidD}, KidsOn w q n c l → Far B q → KidsOn w' q n c l := fun h hf => ⟨h.len, h.le, h.cap, h.nil, fun i r hi => by
  obtain ⟨a, rfl, hc⟩ := h.get i r hi; refine ⟨a, rfl, fun j x hj => ?_⟩; have hx := hc j x hj; have e : ((a.add (i * 3)).add j).block = a.block := by unfold Addr.add; (repeat' split) <;> rfl
  have hlt := cell_in hx; rw [e] at hlt; rw [World.cell?_of_block (w := w) (by rw [e]; exact hk _ hlt (hf a rfl))]
  exact hx, h.ok⟩
 exact ⟨hon.page, hon.pok, ⟨hon.bef.kind, hr hon.bef.rows hf.a, hd hon.bef.kids hf.b⟩, ⟨hon.aft.kind, hr hon.aft.rows hf.c, hd hon.aft.kids hf.d⟩⟩
theorem OwnS.onk {α : Type} [Cel α] {T : TypeId} {w w' : World} {B : Nat} {q : Option Addr} {m c : Nat} {V : List α} (ho : OwnS T w B (.slice q m c) V) (hk : ∀ k, k < w.heap.size → B ≤ k → w'.heap[k]? = w.heap[k]?) : OwnS T w' B (.slice q m c) V :=
 ho.kept (fun a ha => hk _ (ho.far a ha).2 (ho.far a ha).1)
/-- worlds that are alike from a block on, up to where the one ends -/
def Alike (B : Nat) (w x : World) : Prop := ∀ k, B ≤ k → k < w.heap.size → x.heap[k]? = w.heap[k]?
def RestPost (r0 : RecD) (w : World) (g gr R : Nat) (d : Option Nat) (all : List UInt8) (t : RSt) (e : Ending) (w' : World) : Prop :=
 ∃ (v : RecV) (V : List ImgV) (r : RecD) (t' : RSt), e = .returned (.tuple #[]) ∧ RowV 30 w' R v.cells ∧ (∀ x : World, Alike w.heap.size w' x → v.On x V r) ∧ RestR r0 t r t' ∧ RStep3 w w' g gr R ∧ RR w' g gr d all t'
set_option maxRecDepth 100000 in
set_option maxHeartbeats 4000000 in
theorem kindsR_any (g : Nat) (w : World) :
 Calls Tryz.prog 76 #[.pointer (some ⟨g, 0, none⟩)] w (fun e w' => ∃ b, e = .returned (.map (some b)) ∧ IMap .i64 w' b 9 (kindsR g) ∧ Below w.heap.size w w') := by
 have hmm := @run_makeMap Tryz.prog; obtain ⟨W2, hW2⟩ : ∃ W2, w.alloc (.map #[] 0) = W2 := ⟨_, rfl⟩; have hm0 : Hid (IMap .i64 W2 w.heap.size 0 (fun _ => none)) := by rw [← hW2]; exact IMap.made _ _
 have hb2 : Hid (Below w.heap.size w W2) := by rw [← hW2]; exact (Below.refl _ _).alloc (Nat.le_refl _) _
 have hg0 : Hid (W2.grownBy W2 (some w.heap.size)) := Gr.refl _ _
 go_enter Tryz.func76, Tryz.ntmps76
 go_wp2_with (first
  | ((with_reducible refine wpList_insert_i rfl (.tmp 3) (.const (.int .i64 1)) (.tmp 5) 127 rfl Tryz.underlying127 Tryz.underlying3 rfl rfl rfl hm0.out ?_)
     intro w1 h1 g1; have hm1 := lh h1; have hg1 := lh (hg0.out.trans g1)
     clear h1 g1)
  | ((with_reducible refine wpList_insert_i rfl (.tmp 3) (.const (.int .i64 2)) (.tmp 7) 127 rfl Tryz.underlying127 Tryz.underlying3 rfl rfl rfl hm1.out ?_)
     intro w2 h2 g2; have hm2 := lh h2; have hg2 := lh (hg1.out.trans g2)
     clear h2 g2)
  | ((with_reducible refine wpList_insert_i rfl (.tmp 3) (.const (.int .i64 3)) (.tmp 9) 127 rfl Tryz.underlying127 Tryz.underlying3 rfl rfl rfl hm2.out ?_)
     intro w3 h3 g3; have hm3 := lh h3; have hg3 := lh (hg2.out.trans g3)
     clear h3 g3)
  | ((with_reducible refine wpList_insert_i rfl (.tmp 3) (.const (.int .i64 4)) (.tmp 11) 127 rfl Tryz.underlying127 Tryz.underlying3 rfl rfl rfl hm3.out ?_)
     intro w4 h4 g4; have hm4 := lh h4; have hg4 := lh (hg3.out.trans g4)
     clear h4 g4)
  | ((with_reducible refine wpList_insert_i rfl (.tmp 3) (.const (.int .i64 5)) (.tmp 13) 127 rfl Tryz.underlying127 Tryz.underlying3 rfl rfl rfl hm4.out ?_)
     intro w5 h5 g5; have hm5 := lh h5; have hg5 := lh (hg4.out.trans g5)
     clear h5 g5)
  | ((with_reducible refine wpList_insert_i rfl (.tmp 3) (.const (.int .i64 6)) (.tmp 15) 127 rfl Tryz.underlying127 Tryz.underlying3 rfl rfl rfl hm5.out ?_)
     intro w6 h6 g6; have hm6 := lh h6; have hg6 := lh (hg5.out.trans g6)
     clear h6 g6)
  | ((with_reducible refine wpList_insert_i rfl (.tmp 3) (.const (.int .i64 7)) (.tmp 17) 127 rfl Tryz.underlying127 Tryz.underlying3 rfl rfl rfl hm6.out ?_)
     intro w7 h7 g7; have hm7 := lh h7; have hg7 := lh (hg6.out.trans g7)
     clear h7 g7)
  | ((with_reducible refine wpList_insert_i rfl (.tmp 3) (.const (.int .i64 8)) (.tmp 19) 127 rfl Tryz.underlying127 Tryz.underlying3 rfl rfl rfl hm7.out ?_)
     intro w8 h8 g8; have hm8 := lh h8; have hg8 := lh (hg7.out.trans g8)
     clear h8 g8)
  | ((with_reducible refine wpList_insert_i rfl (.tmp 3) (.const (.int .i64 9)) (.tmp 21) 127 rfl Tryz.underlying127 Tryz.underlying3 rfl rfl rfl hm8.out ?_)
     intro w9 h9 g9; have hm9 := lh h9; have hg9 := lh (hg8.out.trans g9)
     clear h9 g9))
 go_ret; exact ⟨_, rfl, hm9.out, Gr.below hg9.out hb2.out (Nat.le_refl _)⟩
set_option maxRecDepth 100000 in
set_option maxHeartbeats 8000000 in
theorem done_rr {w : World} {g gr R : Nat} {d : Option Nat} {all : List UInt8} {t : RSt} (h : RR w g gr d all t) (lsn txn prev : Int) (hl : U64 lsn) (ht : I64 txn) (hp : U64 prev) (hR : RowV 30 w R [.int .i64 4, .int .u64 lsn, .int .i64 txn, .int .u64 prev, .int .u64 0, .slice none 0 0, .slice none 0 0, .int .i64 0, .slice none 0 0, .slice none 0 0]) (hgR : g < R) (hrR : gr < R) (hdR : d ≠ some R) :
 Calls Tryz.prog 105 #[.pointer (some ⟨g, 0, none⟩), .pointer (some ⟨R, 0, none⟩)] w (RestPost (headD 4 lsn txn prev) w g gr R d all t) := by
 have hints : Hid (I64 4 ∧ U64 lsn ∧ I64 txn ∧ U64 prev) := ⟨by unfold I64; omega, hl, ht, hp⟩; have hgR := lh hgR; have hrR := lh hrR; have hdR := lh hdR; have hRl := lh hR.lt; have r0 := lh hR; have rr0 := lh h; have s0 : Hid (RStep3 w w g gr R) := RStep3.of (RStep.refl w g gr); clear hR hl ht hp; have c0 : w.cell? ⟨g, 0, none⟩ = some (.pointer (some ⟨gr, 0, none⟩)) := rr0.out.c0; obtain ⟨x, hx⟩ : ∃ y, t.nm 8 = y := ⟨_, rfl⟩; have hu := rr64 rr0.out; have hxb := nm8 t; rw [hx] at hu hxb; have hu := lh hu; have hx := lh hx; have hxb := lh hxb; clear h
 go_enter Tryz.func105, Tryz.ntmps105
 go_wp2_with fail
 refine hu.out.mono ?_; clear c0 hu; rintro e u1 ⟨rfl, hs', hr'⟩; have p1 := lh hr'; have r1 : Hid (RowV 30 u1 R [.int .i64 4, .int .u64 lsn, .int .i64 txn, .int .u64 prev, .int .u64 0, .slice none 0 0, .slice none 0 0, .int .i64 0, .slice none 0 0, .slice none 0 0]) := hs'.row r0.out (by have h1 := hgR.out; omega) (by have h1 := hrR.out; omega); have s1 := lh (s0.out.trans (RStep3.of hs')); clear hs' hr'; have z1 := r1.out.cell 4; have f1 : u1.frozen? ⟨R, 4, none⟩ = false := r1.out.free 4; obtain ⟨y1, hy1⟩ : ∃ y, u1.setCell ⟨R, 4, none⟩ (.int .u64 x) = y := ⟨_, rfl⟩; have r1' : Hid (RowV 30 y1 R [.int .i64 4, .int .u64 lsn, .int .i64 txn, .int .u64 prev, .int .u64 x, .slice none 0 0, .slice none 0 0, .int .i64 0, .slice none 0 0, .slice none 0 0]) := by have h1 := r1.out.set 4 (.int .u64 x); rw [hy1] at h1; exact h1
 have g1 := setCell_grown u1 R 4 (.int .u64 x); have h3 := RStep3.set u1 g gr R 4 (.int .u64 x); rw [hy1] at g1 h3; have p1' := lh (p1.out.new g1 hrR.out (by have h1 := hgR.out; omega) hdR.out); have s1' := lh (s1.out.trans h3); clear g1 h3
 -- 1
 go_wp2_with fail
 refine (liststep_rr p1'.out 2 (by decide) (by decide)).mono ?_; rintro e u2 ⟨q2, m2, cc2, V2, L2, t2, rfl, hown, hmean, hl, hs', hr'⟩; have o2 := lh hown; have e2 := lh hmean; have l2 := lh hl; have p2 := lh hr'; have b2 := lh (show R < y1.heap.size from Nat.lt_of_lt_of_le hRl.out s1'.out.size); have r2 : Hid (RowV 30 u2 R [.int .i64 4, .int .u64 lsn, .int .i64 txn, .int .u64 prev, .int .u64 x, .slice none 0 0, .slice none 0 0, .int .i64 0, .slice none 0 0, .slice none 0 0]) := hs'.row r1'.out (by have h1 := hgR.out; omega) (by have h1 := hrR.out; omega); have s2 := lh (s1'.out.trans (RStep3.of hs')); clear hown hmean hl hs' hr'; have k2_2 : Hid (RStep3 u2 u2 g gr R) := RStep3.of (RStep.refl _ _ _); have z2 := r2.out.cell 6; have f2 : u2.frozen? ⟨R, 6, none⟩ = false := r2.out.free 6; obtain ⟨y2, hy2⟩ : ∃ y, u2.setCell ⟨R, 6, none⟩ (.slice q2 m2 cc2) = y := ⟨_, rfl⟩; have r2' : Hid (RowV 30 y2 R [.int .i64 4, .int .u64 lsn, .int .i64 txn, .int .u64 prev, .int .u64 x, .slice none 0 0, .slice q2 m2 cc2, .int .i64 0, .slice none 0 0, .slice none 0 0]) := by have h1 := r2.out.set 6 (.slice q2 m2 cc2); rw [hy2] at h1; exact h1
 have g2 := setCell_grown u2 R 6 (.slice q2 m2 cc2); have h3 := RStep3.set u2 g gr R 6 (.slice q2 m2 cc2); rw [hy2] at g2 h3; have p2' := lh (p2.out.new g2 hrR.out (by have h1 := hgR.out; omega) hdR.out); have s2' := lh (s2.out.trans h3); have k2'_2 := lh (k2_2.out.trans h3); clear g2 h3
 -- 2
 have k2_2 := k2'_2; have x2 : Hid (∀ x : World, Alike w.heap.size y2 x → ∀ k, k < u2.heap.size → y1.heap.size ≤ k → x.heap[k]? = u2.heap[k]?) := fun x ha k h1 h2 => (ha k (Nat.le_trans s1'.out.size h2) (Nat.lt_of_lt_of_le h1 k2_2.out.size)).trans (k2_2.out.block k h1 (by have h3 := b2.out; have h4 := hgR.out; omega) (by have h3 := b2.out; have h4 := hrR.out; omega) (by have h3 := b2.out; omega))
 go_wp2; go_end0; refine ⟨⟨4, lsn, txn, prev, x, none, 0, 0, q2, m2, cc2, 0, none, 0, 0, none, 0, 0⟩, [], ⟨4, lsn, txn, prev, x, [], L2, 0, [], []⟩, _, rfl, r2'.out, fun x ha => ⟨rfl, rfl, rfl, rfl, rfl, rfl, ⟨hints.out.1, hints.out.2.1, hints.out.2.2.1, hints.out.2.2.2, hxb.out, i64_zero⟩, ImgsOn.none_ _, (by have h1 := (o2.out.onk (x2.out x ha)).reads; rw [e2.out] at h1; exact h1), SlOn.none_ _, SlOn.none_ _, (l2.out.all stepR_ok), (fun s h => by cases h), (fun s h => by cases h)⟩, ?_, s2'.out, p2'.out⟩
 have hrest : RestR (headD 4 lsn txn prev) t ⟨4, lsn, txn, prev, x, [], L2, 0, [], []⟩ t2 := by unfold RestR; simp only [headD, Int.reduceEq, if_true, if_false]; exact ⟨_, l2.out, by rw [hx.out]⟩
 exact hrest
end Go.Proofs.YtocekhckmpkbmaaGreat
namespace Go.Proofs.YtocekhckmpkbmaaGreat
open Go.RowKit Go.ChangeMaps
def t0R (b : List UInt8) : RSt := ⟨⟨b, 0⟩, false⟩
def headR (b : List UInt8) : RecD := headD ((t0R b).nm 1) (((t0R b).nx 1).nm 8) ((((t0R b).nx 1).nx 8).nm 4) (((((t0R b).nx 1).nx 8).nx 4).nm 8)
def tailT (b : List UInt8) : RSt := ((((t0R b).nx 1).nx 8).nx 4).nx 8
/-- what bytes say -/
def ReadR (b : List UInt8) (r : RecD) (good : Bool) : Prop :=
 if 1 ≤ (headR b).kind ∧ (headR b).kind ≤ 9 then ∃ t', RestR (headR b) (tailT b) r t' ∧ good = (!t'.b && ((t'.s.e == 0) && ((t'.s.l.length : Int) == 0)))
 else r = zRec ∧ good = false
theorem ReadR.of {b : List UInt8} {r0 r : RecD} {t' : RSt} {good : Bool} (h1 : headR b = r0) (hk : 1 ≤ r0.kind ∧ r0.kind ≤ 9) (hr : RestR r0 (tailT b) r t') (hg : good = (!t'.b && ((t'.s.e == 0) && ((t'.s.l.length : Int) == 0)))) : ReadR b r good := by
 unfold ReadR; rw [h1, if_pos hk]; exact ⟨t', hr, hg⟩
def ReadRPost (b : List UInt8) (w : World) (e : Ending) (w' : World) : Prop := ∃ (v : RecV) (V : List ImgV) (r : RecD) (good : Bool), e = .returned (.tuple #[v.val, .bool good]) ∧ (∀ x : World, Alike w.heap.size w' x → v.On x V r) ∧ ReadR b r good ∧ Below w.heap.size w w'
theorem RStep3.below {B : Nat} {w w' : World} {g gr R : Nat} (h : RStep3 w w' g gr R) (hB : B ≤ w.heap.size) (h1 : B ≤ g) (h2 : B ≤ gr) (h3 : B ≤ R) : Below B w w' :=
 ⟨h.os, h.tape, h.output, h.size, fun k hk => h.block k (by omega) (by omega) (by omega) (by omega)⟩
/-- what reads the rest of a record of kind k -/
def KindLaw (F : Nat) (k : Int) : Prop := ∀ (w : World) (g gr R : Nat) (d : Option Nat) (all : List UInt8) (t : RSt), RR w g gr d all t → ∀ (lsn txn prev : Int), U64 lsn → I64 txn → U64 prev → RowV 30 w R [.int .i64 k, .int .u64 lsn, .int .i64 txn, .int .u64 prev, .int .u64 0, .slice none 0 0, .slice none 0 0, .int .i64 0, .slice none 0 0, .slice none 0 0] → g < R → gr < R → d ≠ some R →
 Calls Tryz.prog F #[.pointer (some ⟨g, 0, none⟩), .pointer (some ⟨R, 0, none⟩)] w (RestPost (headD k lsn txn prev) w g gr R d all t)
end Go.Proofs.YtocekhckmpkbmaaGreat
namespace Go.Proofs.YtocekhckmpkbmaaGreat
open Go.RowKit
theorem riseF_len : ∀ (L : List Int) (a : Int), a ≤ 63 → riseF a L = true → (L.length : Int) ≤ 63 - a
 | [], a, ha, _ => by simp; omega
 | p :: r, a, ha, h => by
   unfold riseF at h
   split at h
   · cases h
   · have h2 := riseF_len r p (by omega) h; simp only [List.length_cons]; omega
theorem lay_of {r : RecD} (h : mayB r = true) : LayOk r := by
 unfold mayB at h; rw [Bool.and_eq_true] at h; have hk := h.2; unfold kindB at hk; unfold LayOk
 by_cases h2 : r.kind = 2
 · rw [if_pos h2]; rw [if_neg (by omega), if_pos h2] at hk; simp only [Bool.and_eq_true] at hk; have hi := (pB_iff _).1 hk.2.2; exact ⟨fun d hd => hi.2 d hd, hi.1.1⟩
 rw [if_neg h2]
 by_cases h4 : r.kind = 4
 · rw [if_pos h4]; rw [if_neg (by omega), if_neg h2, if_neg (by omega), if_pos h4] at hk; simp only [Bool.and_eq_true] at hk; have hs := hk.2.2; unfold stpsB at hs; simp only [Bool.and_eq_true, decide_eq_true_eq] at hs; exact ⟨fun s hs' => List.all_eq_true.1 hs.2.2 s hs', hs.2.1⟩
 rw [if_neg h4]
 by_cases h5 : r.kind = 5
 · rw [if_pos h5]; rw [if_neg (by omega), if_neg h2, if_neg (by omega), if_neg h4, if_pos h5] at hk; simp only [Bool.and_eq_true] at hk; have hi := (pB_iff _).1 hk.2.2.1; exact ⟨fun d hd => (hi.2 d hd).2, hi.1.1⟩
 rw [if_neg h5]
 by_cases h9 : r.kind = 9
 · rw [if_pos h9]; rw [if_neg (by omega), if_neg h2, if_neg (by omega), if_neg h4, if_neg h5, if_neg (by omega), if_neg (by omega), if_neg (by omega), if_pos h9] at hk; simp only [Bool.and_eq_true] at hk; have ht := hk.2.2.2.1; have hd := hk.2.2.2.2; unfold txnsB at ht; unfold dirtyB at hd; simp only [Bool.and_eq_true, decide_eq_true_eq] at ht hd; have hl := riseF_len _ _ (by decide) hd.2; rw [List.length_map] at hl; exact ⟨ht.1, by omega⟩
 rw [if_neg h9]
 by_cases h1 : r.kind = 1
 · exact .inl h1
 by_cases h3 : r.kind = 3
 · exact .inr (.inl h3)
 by_cases h6 : r.kind = 6
 · exact .inr (.inr (.inl h6))
 by_cases h7 : r.kind = 7
 · exact .inr (.inr (.inr (.inl h7)))
 by_cases h8 : r.kind = 8
 · exact .inr (.inr (.inr (.inr h8)))
 rw [if_neg h1, if_neg h2, if_neg h3, if_neg h4, if_neg h5, if_neg h6, if_neg h7, if_neg h8, if_neg h9] at hk; cases hk
theorem encL_le {α : Type} {f : α → List UInt8} {L : List α} {b : Nat} (h : ∀ x ∈ L, (f x).length ≤ b) : (encL f L).length ≤ b * L.length := by
 have h1 := encL_len h L.length
 rwa [List.take_length] at h1
theorem encRec_len {r : RecD} (h : LayOk r) : (encRec r).length ≤ 4000 := by
 have e : (encRec r).length = 21 + (encRest r).length := by unfold encRec; simp only [List.length_append, length_be]
 rw [e]
 have hr : (encRest r).length ≤ 3000 := by
  unfold LayOk at h; unfold encRest
  split
  · rename_i h2
    rw [if_pos h2] at h; have h1 := encL_le (f := encImg) (L := r.images) (b := 165) (fun d hd => by have h1 := encC_len (h.1 d hd).1; have h3 := encC_len (h.1 d hd).2; unfold encImg; rw [List.length_append, List.length_append, length_be]; omega); rw [List.length_append, length_be]; have h3 := h.2; have h4 : 165 * r.images.length ≤ 165 * 16 := Nat.mul_le_mul_left _ h3; omega
  rename_i h2
  rw [if_neg h2] at h
  split
  · rw [length_be]; omega
  split
  · rename_i h4
    rw [if_pos h4] at h; have h1 := encL_le (f := encStep) (L := r.steps) (b := 21) (fun s hs => encStep_len (h.1 s hs)); rw [List.length_append, List.length_append, length_be, length_be]; have h3 := h.2; have h5 : 21 * r.steps.length ≤ 21 * 2 := Nat.mul_le_mul_left _ h3; omega
  rename_i h4
  rw [if_neg h4] at h
  split
  · rename_i h5
    rw [if_pos h5] at h; have h1 := encL_le (f := encAft) (L := r.images) (b := 83) (fun d hd => by have h1 := encC_len (h.1 d hd); unfold encAft; rw [List.length_append, length_be]; omega); rw [List.length_append, List.length_append, length_be, length_be]; have h3 := h.2; have h6 : 83 * r.images.length ≤ 83 * 16 := Nat.mul_le_mul_left _ h3; omega
  rename_i h5
  rw [if_neg h5] at h
  split
  · rename_i h9
    rw [if_pos h9] at h; have h1 := encL_le (f := encTxn) (L := r.txns) (b := 29) (fun t ht => by unfold encTxn; simp only [List.length_append, length_be]; decide); have h2 := encL_le (f := encPg) (L := r.dirty) (b := 9) (fun t ht => by unfold encPg; simp only [List.length_append, length_be]; decide); simp only [List.length_append, length_be]; have h3 : 29 * r.txns.length ≤ 29 * 8 := Nat.mul_le_mul_left _ h.1; have h4 : 9 * r.dirty.length ≤ 9 * 64 := Nat.mul_le_mul_left _ h.2; omega
  · simp
 omega
/-- how many sectors an entry of n bytes has -/
def secs (n : Nat) : Nat := (n - 1) / 52 + 1
theorem sectors_any (n : Nat) (w : World) (hn : n < 4611686018427387904) : Calls Tryz.prog 49 #[.int .i64 n] w (fun e w' => e = .returned (.int .i64 (secs n)) ∧ w' = w) := by
 have h1 : (0 : Int) ≤ n := by omega
 have e1 : (max ((n : Int) - 1) 0) = ((n - 1 : Nat) : Int) := by omega
 have e2 : (((n - 1 : Nat) : Int).tdiv 52) = (((n - 1) / 52 : Nat) : Int) := by rw [Int.tdiv_eq_ediv_of_nonneg (by omega)]; omega
 go_enter Tryz.func49, Tryz.ntmps49
 go_wp2; go_ret; exact ⟨congrArg (fun z : Int => Ending.returned (.int .i64 z)) (by unfold secs; omega), rfl⟩
noncomputable def chkRec (r : RecD) : Int := if mayB r = true then 0 else 220
set_option maxRecDepth 100000 in
set_option maxHeartbeats 4000000 in
theorem checkRec_any (v : RecV) (V : List ImgV) (r : RecD) (w : World) (h : v.On w V r) :
 Calls Tryz.prog 13 #[v.val] w (fun e w' => e = .returned (.int .i64 (chkRec r)) ∧ Below w.heap.size w w') := by
 obtain ⟨kind, lsn, txn, prev, next, iq, im, ic, sq, sn, sc, nextTxn, tq, tn, tc, dq, dn, dc⟩ := v; obtain ⟨W, hW⟩ : ∃ W, w.alloc (.cells #[.int .i64 kind, .int .u64 lsn, .int .i64 txn, .int .u64 prev, .int .u64 next, .slice iq im ic, .slice sq sn sc, .int .i64 nextTxn, .slice tq tn tc, .slice dq dn dc] 30) = W := ⟨_, rfl⟩; have hbx := lh (one_box hW); have o1 := lh (h.below hbx.out.1 (Nat.le_refl _)); have zr : (Tryz.prog.info? 30).map (·.size) = some ([.int .i64 kind, .int .u64 lsn, .int .i64 txn, .int .u64 prev, .int .u64 next, .slice iq im ic, .slice sq sn sc, .int .i64 nextTxn, .slice tq tn tc, .slice dq dn dc] : List Value).length := sizeRec ⟨kind, lsn, txn, prev, next, iq, im, ic, sq, sn, sc, nextTxn, tq, tn, tc, dq, dn, dc⟩; have hm := mayBe_any ⟨kind, lsn, txn, prev, next, iq, im, ic, sq, sn, sc, nextTxn, tq, tn, tc, dq, dn, dc⟩ V r W o1.out; unfold chkRec; cases hB : mayB r with
 | true =>
   rw [hB] at hm; have hm := lh hm; clear h o1 hB; show Calls _ _ #[.agg #[.int .i64 kind, .int .u64 lsn, .int .i64 txn, .int .u64 prev, .int .u64 next, .slice iq im ic, .slice sq sn sc, .int .i64 nextTxn, .slice tq tn tc, .slice dq dn dc]] _ _
   go_enter Tryz.func13, Tryz.ntmps13
   go_wp2_with (first
    | (with_reducible refine wpList_load_at rfl 30 (.tmp 1) rfl Tryz.underlying30 rfl zr rfl hbx.out.2.1.all ?_))
   clear hW; refine hm.out.mono ?_; clear hm; rintro e w1 ⟨rfl, hb⟩; have hd := lh (hbx.out.1.trans (hb.mono hbx.out.1.size)); clear hb; go_wp2; go_ret; exact ⟨rfl, hd.out⟩
 | false =>
   rw [hB] at hm; have hm := lh hm; clear h o1 hB; show Calls _ _ #[.agg #[.int .i64 kind, .int .u64 lsn, .int .i64 txn, .int .u64 prev, .int .u64 next, .slice iq im ic, .slice sq sn sc, .int .i64 nextTxn, .slice tq tn tc, .slice dq dn dc]] _ _
   go_enter Tryz.func13, Tryz.ntmps13
   go_wp2_with (first
    | (with_reducible refine wpList_load_at rfl 30 (.tmp 1) rfl Tryz.underlying30 rfl zr rfl hbx.out.2.1.all ?_))
   clear hW; refine hm.out.mono ?_; clear hm; rintro e w1 ⟨rfl, hb⟩; have hd := lh (hbx.out.1.trans (hb.mono hbx.out.1.size)); clear hb; go_wp2; go_ret; exact ⟨rfl, hd.out⟩
set_option maxRecDepth 100000 in
set_option maxHeartbeats 4000000 in
theorem undoable_any (v : RecV) (V : List ImgV) (r : RecD) (w : World) (h : v.On w V r) :
 Calls Tryz.prog 23 #[v.val] w (fun e w' => e = .returned (.bool (mayB r && (r.kind == 2 || r.kind == 4))) ∧ Below w.heap.size w w') := by
 obtain ⟨kind, lsn, txn, prev, next, iq, im, ic, sq, sn, sc, nextTxn, tq, tn, tc, dq, dn, dc⟩ := v; obtain ⟨W, hW⟩ : ∃ W, w.alloc (.cells #[.int .i64 kind, .int .u64 lsn, .int .i64 txn, .int .u64 prev, .int .u64 next, .slice iq im ic, .slice sq sn sc, .int .i64 nextTxn, .slice tq tn tc, .slice dq dn dc] 30) = W := ⟨_, rfl⟩; have hbx := lh (one_box hW); have o1 := lh (h.below hbx.out.1 (Nat.le_refl _)); have zr : (Tryz.prog.info? 30).map (·.size) = some ([.int .i64 kind, .int .u64 lsn, .int .i64 txn, .int .u64 prev, .int .u64 next, .slice iq im ic, .slice sq sn sc, .int .i64 nextTxn, .slice tq tn tc, .slice dq dn dc] : List Value).length := sizeRec ⟨kind, lsn, txn, prev, next, iq, im, ic, sq, sn, sc, nextTxn, tq, tn, tc, dq, dn, dc⟩; have hm := mayBe_any ⟨kind, lsn, txn, prev, next, iq, im, ic, sq, sn, sc, nextTxn, tq, tn, tc, dq, dn, dc⟩ V r W o1.out; have hk := h.kind; simp only at hk; rw [← hk]
 obtain ⟨B, hB⟩ : ∃ B, mayB r = B := ⟨_, rfl⟩; rw [hB] at hm; rw [hB]; have hm := lh hm; clear h o1 hB hk; obtain ⟨k2, hk2⟩ : ∃ b, (kind == 2) = b := ⟨_, rfl⟩; obtain ⟨k4, hk4⟩ : ∃ b, (kind == 4) = b := ⟨_, rfl⟩; rw [hk2, hk4]; show Calls _ _ #[.agg #[.int .i64 kind, .int .u64 lsn, .int .i64 txn, .int .u64 prev, .int .u64 next, .slice iq im ic, .slice sq sn sc, .int .i64 nextTxn, .slice tq tn tc, .slice dq dn dc]] _ _
 go_enter Tryz.func23, Tryz.ntmps23
 go_wp2_with (first
  | (with_reducible refine wpList_load_at rfl 30 (.tmp 1) rfl Tryz.underlying30 rfl zr rfl hbx.out.2.1.all ?_))
 clear hW; refine hm.out.mono ?_; clear hm; rintro e w1 ⟨rfl, hb⟩; have hd := lh (hbx.out.1.trans (hb.mono hbx.out.1.size)); have z0 := (hbx.out.2.1.below hb (Nat.le_refl _)).cell 0 rfl; clear hb; cases B with
 | false => go_wp2; go_ret; exact ⟨rfl, hd.out⟩
 | true =>
   cases k2 with
   | true => go_wp2; go_ret; exact ⟨rfl, hd.out⟩
   | false =>
     cases k4 with
     | true => go_wp2; go_ret; exact ⟨rfl, hd.out⟩
     | false => go_wp2; go_ret; exact ⟨rfl, hd.out⟩
def EncPost (r : RecD) (w : World) (e : Ending) (w' : World) : Prop := ∃ q n c er, e = .returned (.tuple #[.slice q n c, .int .i64 er]) ∧ ((er = 0 ∧ mayB r = true ∧ Own w' w.heap.size (.slice q n c) (encRec r)) ∨ (er = 220 ∧ mayB r = false ∧ q = none ∧ n = 0 ∧ c = 0)) ∧ Below w.heap.size w w'
def CostPost (r : RecD) (w : World) (e : Ending) (w' : World) : Prop := ∃ n er, e = .returned (.tuple #[.int .i64 n, .int .i64 er]) ∧ ((er = 0 ∧ mayB r = true ∧ n = (secs (encRec r).length : Int)) ∨ (er = 220 ∧ mayB r = false ∧ n = 0)) ∧ Below w.heap.size w w' 
set_option maxRecDepth 100000 in
set_option maxHeartbeats 4000000 in
theorem encode_any (v : RecV) (V : List ImgV) (r : RecD) (w : World) (h : v.On w V r) :
 Calls Tryz.prog 16 #[v.val] w (EncPost r w) := by
 obtain ⟨kind, lsn, txn, prev, next, iq, im, ic, sq, sn, sc, nextTxn, tq, tn, tc, dq, dn, dc⟩ := v; obtain ⟨W, hW⟩ : ∃ W, w.alloc (.cells #[.int .i64 kind, .int .u64 lsn, .int .i64 txn, .int .u64 prev, .int .u64 next, .slice iq im ic, .slice sq sn sc, .int .i64 nextTxn, .slice tq tn tc, .slice dq dn dc] 30) = W := ⟨_, rfl⟩; have hbx := lh (one_box hW); have o1 := lh (h.below hbx.out.1 (Nat.le_refl _)); have zr : (Tryz.prog.info? 30).map (·.size) = some ([.int .i64 kind, .int .u64 lsn, .int .i64 txn, .int .u64 prev, .int .u64 next, .slice iq im ic, .slice sq sn sc, .int .i64 nextTxn, .slice tq tn tc, .slice dq dn dc] : List Value).length := sizeRec ⟨kind, lsn, txn, prev, next, iq, im, ic, sq, sn, sc, nextTxn, tq, tn, tc, dq, dn, dc⟩; have hm := checkRec_any ⟨kind, lsn, txn, prev, next, iq, im, ic, sq, sn, sc, nextTxn, tq, tn, tc, dq, dn, dc⟩ V r W o1.out; unfold chkRec at hm; cases hB : mayB r with
 | false =>
   rw [hB] at hm; simp only [Bool.false_eq_true, if_false] at hm; have hm := lh hm; have hB := lh hB; clear h o1; show Calls _ _ #[.agg #[.int .i64 kind, .int .u64 lsn, .int .i64 txn, .int .u64 prev, .int .u64 next, .slice iq im ic, .slice sq sn sc, .int .i64 nextTxn, .slice tq tn tc, .slice dq dn dc]] _ _
   go_enter Tryz.func16, Tryz.ntmps16
   go_wp2_with (first
    | (with_reducible refine wpList_load_at rfl 30 (.tmp 1) rfl Tryz.underlying30 rfl zr rfl hbx.out.2.1.all ?_))
   clear hW; refine hm.out.mono ?_; clear hm; rintro e w1 ⟨rfl, hb⟩; have hd := lh (hbx.out.1.trans (hb.mono hbx.out.1.size)); clear hb; go_wp2
   go_ret2
   exact ⟨none, 0, 0, 220, rfl, .inr ⟨rfl, hB.out, rfl, rfl, rfl⟩, hd.out⟩
 | true =>
   rw [hB] at hm; simp only [if_true] at hm; have hm := lh hm; have hB := lh hB; have hla := lh (fun u (hu : Below W.heap.size W u) => laid_any ⟨kind, lsn, txn, prev, next, iq, im, ic, sq, sn, sc, nextTxn, tq, tn, tc, dq, dn, dc⟩ V r u (o1.out.below hu (Nat.le_refl _)) (lay_of hB.out)); have hln := lh (encRec_len (lay_of hB.out)); clear h o1; show Calls _ _ #[.agg #[.int .i64 kind, .int .u64 lsn, .int .i64 txn, .int .u64 prev, .int .u64 next, .slice iq im ic, .slice sq sn sc, .int .i64 nextTxn, .slice tq tn tc, .slice dq dn dc]] _ _
   go_enter Tryz.func16, Tryz.ntmps16
   go_wp2_with (first
    | (with_reducible refine wpList_load_at rfl 30 (.tmp 1) rfl Tryz.underlying30 rfl zr rfl hbx.out.2.1.all ?_))
   clear hW; refine hm.out.mono ?_; clear hm; rintro e w1 ⟨rfl, hb⟩; have hb1 := lh hb; clear hb
   go_wp2_with (first
    | (with_reducible refine wpList_load_at rfl 30 (.tmp 1) rfl Tryz.underlying30 rfl zr rfl (hbx.out.2.1.below hb1.out (Nat.le_refl _)).all ?_))
   refine (hla.out w1 hb1.out).mono ?_; clear hla; rintro e w2 ⟨q, n, c, rfl, hown, hb⟩; have hown := lh hown; have hd := lh (hbx.out.1.trans ((hb1.out.trans (hb.mono hb1.out.size)).mono hbx.out.1.size)); clear hb; go_wp2
   go_ret2
   exact ⟨q, n, c, 0, rfl, .inl ⟨rfl, hB.out, hown.out.mono (Nat.le_trans hbx.out.1.size hb1.out.size)⟩, hd.out⟩
set_option maxRecDepth 100000 in
set_option maxHeartbeats 4000000 in
theorem cost_any (v : RecV) (V : List ImgV) (r : RecD) (w : World) (h : v.On w V r) :
 Calls Tryz.prog 21 #[v.val] w (CostPost r w) := by
 obtain ⟨kind, lsn, txn, prev, next, iq, im, ic, sq, sn, sc, nextTxn, tq, tn, tc, dq, dn, dc⟩ := v; obtain ⟨W, hW⟩ : ∃ W, w.alloc (.cells #[.int .i64 kind, .int .u64 lsn, .int .i64 txn, .int .u64 prev, .int .u64 next, .slice iq im ic, .slice sq sn sc, .int .i64 nextTxn, .slice tq tn tc, .slice dq dn dc] 30) = W := ⟨_, rfl⟩; have hbx := lh (one_box hW); have o1 := lh (h.below hbx.out.1 (Nat.le_refl _)); have zr : (Tryz.prog.info? 30).map (·.size) = some ([.int .i64 kind, .int .u64 lsn, .int .i64 txn, .int .u64 prev, .int .u64 next, .slice iq im ic, .slice sq sn sc, .int .i64 nextTxn, .slice tq tn tc, .slice dq dn dc] : List Value).length := sizeRec ⟨kind, lsn, txn, prev, next, iq, im, ic, sq, sn, sc, nextTxn, tq, tn, tc, dq, dn, dc⟩; have hm := checkRec_any ⟨kind, lsn, txn, prev, next, iq, im, ic, sq, sn, sc, nextTxn, tq, tn, tc, dq, dn, dc⟩ V r W o1.out; unfold chkRec at hm; cases hB : mayB r with
 | false =>
   rw [hB] at hm; simp only [Bool.false_eq_true, if_false] at hm; have hm := lh hm; have hB := lh hB; clear h o1; show Calls _ _ #[.agg #[.int .i64 kind, .int .u64 lsn, .int .i64 txn, .int .u64 prev, .int .u64 next, .slice iq im ic, .slice sq sn sc, .int .i64 nextTxn, .slice tq tn tc, .slice dq dn dc]] _ _
   go_enter Tryz.func21, Tryz.ntmps21
   go_wp2_with (first
    | (with_reducible refine wpList_load_at rfl 30 (.tmp 1) rfl Tryz.underlying30 rfl zr rfl hbx.out.2.1.all ?_))
   clear hW; refine hm.out.mono ?_; clear hm; rintro e w1 ⟨rfl, hb⟩; have hd := lh (hbx.out.1.trans (hb.mono hbx.out.1.size)); clear hb; go_wp2
   go_ret2
   exact ⟨0, 220, rfl, .inr ⟨rfl, hB.out, rfl⟩, hd.out⟩
 | true =>
   rw [hB] at hm; simp only [if_true] at hm; have hm := lh hm; have hB := lh hB; have hla := lh (fun u (hu : Below W.heap.size W u) => laid_any ⟨kind, lsn, txn, prev, next, iq, im, ic, sq, sn, sc, nextTxn, tq, tn, tc, dq, dn, dc⟩ V r u (o1.out.below hu (Nat.le_refl _)) (lay_of hB.out)); have hln := lh (encRec_len (lay_of hB.out)); clear h o1; show Calls _ _ #[.agg #[.int .i64 kind, .int .u64 lsn, .int .i64 txn, .int .u64 prev, .int .u64 next, .slice iq im ic, .slice sq sn sc, .int .i64 nextTxn, .slice tq tn tc, .slice dq dn dc]] _ _
   go_enter Tryz.func21, Tryz.ntmps21
   go_wp2_with (first
    | (with_reducible refine wpList_load_at rfl 30 (.tmp 1) rfl Tryz.underlying30 rfl zr rfl hbx.out.2.1.all ?_))
   clear hW; refine hm.out.mono ?_; clear hm; rintro e w1 ⟨rfl, hb⟩; have hb1 := lh hb; clear hb
   go_wp2_with (first
    | (with_reducible refine wpList_load_at rfl 30 (.tmp 1) rfl Tryz.underlying30 rfl zr rfl (hbx.out.2.1.below hb1.out (Nat.le_refl _)).all ?_))
   refine (hla.out w1 hb1.out).mono ?_; clear hla; rintro e w2 ⟨q, n, c, rfl, hown, hb⟩; have hown := lh hown; have hd := lh (hbx.out.1.trans ((hb1.out.trans (hb.mono hb1.out.size)).mono hbx.out.1.size)); clear hb; have hn : Hid (n = (encRec r).length) := holds_len hown.out.holds.1; have hnb : n < 4611686018427387904 := by have h1 := hln.out; have h2 := hn.out; omega
   have hse := lh (sectors_any n w2 hnb); obtain ⟨S, hS⟩ : ∃ S, secs n = S := ⟨_, rfl⟩; rw [hS] at hse; have hS' : Hid (secs n = S) := hS; clear hS hnb
   go_wp2_with fail
   refine hse.out.mono ?_; clear hse; rintro e wq ⟨rfl, hw⟩; obtain rfl := hw.symm; go_wp2
   go_ret2
   exact ⟨S, 0, rfl, .inl ⟨rfl, hB.out, by rw [← hn.out, hS'.out]⟩, hd.out⟩
end Go.Proofs.YtocekhckmpkbmaaGreat
