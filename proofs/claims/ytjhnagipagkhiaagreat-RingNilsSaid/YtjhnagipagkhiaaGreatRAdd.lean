/- add: an entry more. -/
import Derived.Test.YtjhnagipagkhiaaGreatRSt
import Derived.Maps.AppendAt
namespace Go.Proofs.YtjhnagipagkhiaaGreat
open Go.RowKit

/-- what lies ahead of block B, but in L, is as it was -/
structure Up (B : Nat) (L : List Nat) (w w' : World) : Prop where
  os : w'.os = w.os
  tape : w'.tape = w.tape
  output : w'.output = w.output
  size : w.heap.size ≤ w'.heap.size
  block : ∀ k, k < B → k ∉ L → w'.heap[k]? = w.heap[k]?
theorem Up.trans {B : Nat} {L : List Nat} {a b c : World} (h : Up B L a b) (k : Up B L b c) : Up B L a c := ⟨k.os.trans h.os, k.tape.trans h.tape, k.output.trans h.output, Nat.le_trans h.size k.size, fun j h1 h2 => (k.block j h1 h2).trans (h.block j h1 h2)⟩
theorem Up.of_tch {B : Nat} {L : List Nat} {w w' : World} (h : Tch L w w') (hB : B ≤ w.heap.size) : Up B L w w' := ⟨h.os, h.tape, h.output, h.size, fun k h1 h2 => h.block k (by omega) h2⟩
theorem Up.of_below {B : Nat} (L : List Nat) {w w' : World} (h : Below w.heap.size w w') (hB : B ≤ w.heap.size) : Up B L w w' := .of_tch (Tch.of_below h L) hB
theorem Up.grown {B : Nat} (L : List Nat) {w w' : World} {g : Option Nat} (h : w.grownBy w' g) (hB : B ≤ w.heap.size) (hg : ∀ k, g = some k → B ≤ k) : Up B L w w' := ⟨h.os, h.tape, h.output, h.size, fun k h1 _ => h.block k (by omega) (fun e => by have := hg k e.symm; omega)⟩

theorem info28 : (Tryz.prog.info? 30).map (fun i => (i.zero, i.size, i.bytes)) = some (some (.slice none 0 0), 1, 24) := by kernel_rfl

section
variable {P : Program} {w : World}
theorem wpList_append_at1 {t T : TypeId} {bytes : Nat} {z : Value} (ht : P.underlying t = some (.slice T)) (hi : (P.info? T).map (fun i => (i.zero, i.size, i.bytes)) = some (some z, 1, bytes)) (hz : z.cells.size = 1)
    {ops : Array Oper} {rest : List Oper} {o : Oper} {a : Act} {Q : Exit → Act → World → Prop} (hgd : o.guard = none) (sl x : Operand)
    (ho : o.op = .call { callee := .builtin .append, args := #[sl, x], argTypes := #[t, t] }) {base : Nat} {q0 : Option Addr} {n0 c0 m d : Nat} {xs ys : List Value} {ad : Addr} (hsl : a.eval sl = .slice q0 n0 c0) (hx : a.eval x = .slice (some ad) m d)
    (hown : OwnV T w base (.slice q0 n0 c0) xs) (hk : ∀ j u, ys[j]? = some u → w.cell? (ad.add j) = some u) (hM : ys.length = m) (hone : ∀ u ∈ ys, u.oneCell' = true) (hbig : (n0 + m) * bytes ≤ 140737488355328) (hbig2 : n0 + m ≤ 140737488355328) (hbase : base ≤ w.heap.size)
    (h : ∀ q' c' w', OwnV T w' base (.slice q' (n0 + m) c') (xs ++ ys) → w.grownBy w' (q0.map (·.block)) → (q'.map (·.block) = q0.map (·.block) ∨ q'.map (·.block) = some w.heap.size) → wpList P ops Q rest (a.put o.dst (.slice q' (n0 + m) c')) w') : wpList P ops Q (o :: rest) a w := by
  obtain ⟨i0, hi0, hz0, hz1, hz2⟩ := info_parts hi
  have hl := hown.len
  subst hl
  obtain ⟨v', w', hr, hown', hg, _, hat⟩ := run_append_own_at (P := P) w base t o.type T i0 z 1 bytes ht hi0 hz0 hz1 hz2 hz (by decide) _ xs.length xs hown ad m d ys (by rw [hM, Nat.mul_one]) hk hone (by unfold maxLen; omega) hbig hbase
  have hown2 : OwnV T w' base v' (xs ++ ys) := by
    unfold OwnV
    rw [List.length_append, hM]
    exact hown'
  obtain ⟨q', c', rfl⟩ := hown2.shape
  rw [List.length_append, hM] at hr hown2
  exact Lib.wpList_append_run_sl w hgd sl x t ho _ _ hsl hx hr (h q' c' w' hown2 (by cases q0 <;> exact hg) (by cases q0 <;> cases q' <;> exact hat))
end

theorem load_used {W : World} {rg : Nat} {x : RgV} (h : RgAt W rg x) : W.cell? ⟨rg, 7, none⟩ = some (.int .i64 x.used) := h.c7

set_option maxRecDepth 100000 in
set_option maxHeartbeats 2000000 in
theorem add_any (rg : Nat) (p : Pl) (d : Dk) (x : RgV) (vs : List Value) (es : List (List UInt8)) (note : List UInt8) (q : Option Addr) (n c : Nat) (w : World) (h : RgOn w rg p d x vs es note) (hel : x.el < 100000) (hu : x.used < 100000) (hn : n ≤ 8000) :
    Calls Tryz.prog 58 #[.pointer (some ⟨rg, 0, none⟩), .slice q n c] w (fun e w' => ∃ v q' c', e = .returned v ∧ RgAt w' rg { x with eq := q', el := x.el + 1, ec := c', used := x.used + secs n } ∧ ∃ w1 w2, OwnV 30 w2 (rg + 1) (.slice q' (x.el + 1) c') (vs ++ [.slice q n c]) ∧
      Below w.heap.size w w1 ∧ w1.grownBy w2 (x.eq.map (·.block)) ∧ (q'.map (·.block) = x.eq.map (·.block) ∨ q'.map (·.block) = some w1.heap.size) ∧ w2.grownBy w' (some rg)) := by
  obtain ⟨w1, hw1⟩ : ∃ w1, w.alloc (.cells #[.slice q n c] 30) = w1 := ⟨_, rfl⟩
  have hb1 : Hid (Below w.heap.size w w1) := by show Below _ _ _; rw [← hw1]; exact (Below.refl _ _).alloc (Nat.le_refl _) _
  have hr1 : Hid (RowV 30 w1 w.heap.size [.slice q n c]) := by show RowV _ _ _ _; rw [← hw1]; exact RowV.made w _
  have c6 := h.here.c6
  have ho1 := Lib.hid (h.own.below hb1.out)
  have hg1 := Lib.hid (RowV.below h.here hb1.out)
  have hlt := h.size
  have hfar := Lib.hid h.own.far
  have hz1 : rg + 1 ≤ w1.heap.size := by have := hb1.out.size; omega
  have hcell : Hid (∀ j u, ([.slice q n c] : List Value)[j]? = some u → w1.cell? ((⟨w.heap.size, 0, none⟩ : Addr).add j) = some u) := hr1.out.part (o := 0) (pre := []) (rest := []) rfl rfl
  go_enter Tryz.func58, Tryz.ntmps58
  go_wp2_with (first
    | (at_builtin
       refine wpList_append_at1 Tryz.underlying33 info28 rfl rfl (.tmp 8) (.tmp 10) rfl rfl rfl (ys := [.slice q n c]) ho1.out hcell.out rfl (fun u hu => by obtain rfl := List.mem_singleton.1 hu; rfl) (by omega) (by omega) hz1 ?_
       intro q2 c2 w2 ho2 hg2 hat2
       have hne : some rg ≠ x.eq.map (·.block) := fun e => by
         cases hq : x.eq with
         | none => rw [hq] at e; cases e
         | some a => have h1 := (hfar.out a hq).1; rw [hq] at e; have h2 : rg = a.block := by simpa using e
                     omega
       have hg3 : RgAt w2 rg x := RowV.block hg1.out (hg2.block rg (by omega) hne)
       have c6b := hg3.c6
       have f6b := RowV.free hg3 6
       have hg4 := Lib.hid hg3
       have ho3 := Lib.hid ho2
       have hg5 := Lib.hid hg2
       have hat3 := Lib.hid hat2
       clear ho2 hg2 hg3 hat2 hne))
  have hr3 : RgAt (w2.setCell ⟨rg, 6, none⟩ (.slice q2 (x.el + 1) c2)) rg { x with eq := q2, el := x.el + 1, ec := c2 } := RowV.set hg4.out 6 _
  have hs3 : w2.grownBy (w2.setCell ⟨rg, 6, none⟩ (.slice q2 (x.el + 1) c2)) (some rg) := setCell_grown w2 rg 6 _
  obtain ⟨w3, hw3⟩ : ∃ w3, w2.setCell ⟨rg, 6, none⟩ (.slice q2 (x.el + 1) c2) = w3 := ⟨_, rfl⟩
  rw [hw3] at hr3 hs3 ⊢
  clear hw3
  have c7c : w3.cell? ⟨rg, 7, none⟩ = some (.int .i64 x.used) := RowV.cell hr3 7
  have f7c := RowV.free hr3 7
  have hsn : secs n < 100000 := by unfold secs; omega
  have hwp := Go.IntWalk.i64_in ((x.used : Int) + secs n) ⟨by omega, by omega⟩
  have hsec := fun u => sectors_any n u (by omega)
  have e4 : ((x.used + secs n : Nat) : Int) = (x.used : Int) + (secs n : Int) := by omega
  have hr4 : RgAt (w3.setCell ⟨rg, 7, none⟩ (.int .i64 ((x.used : Int) + secs n))).drew rg { x with eq := q2, el := x.el + 1, ec := c2, used := x.used + secs n } := by
    rw [← e4]
    exact RowV.block (RowV.set hr3 7 _) rfl
  have s4 := setCell_grown w3 rg 7 (.int .i64 ((x.used : Int) + secs n))
  have hg6 : w2.grownBy (w3.setCell ⟨rg, 7, none⟩ (.int .i64 ((x.used : Int) + secs n))).drew (some rg) :=
    ⟨s4.os.trans hs3.os, s4.tape.trans hs3.tape, s4.output.trans hs3.output, Nat.le_trans hs3.size s4.size, fun k hk hne => (s4.block k (Nat.lt_of_lt_of_le hk hs3.size) hne).trans (hs3.block k hk hne)⟩
  have hr5 := Lib.hid hr4
  have hg7 := Lib.hid hg6
  clear hr4 hg6 s4
  go_region_with (go_at_call 15; refine (hsec _).mono ?_; rintro e w' ⟨rfl, hw'⟩; obtain rfl := hw'.symm)
  all_goals
    go_end0
    exact ⟨_, q2, c2, rfl, hr5.out, w1, w2, ho3.out, hb1.out, hg5.out, hat3.out, hg7.out⟩

/-- an entry more -/
theorem RgOn.more {w w1 w2 w' : World} {rg : Nat} {p : Pl} {d : Dk} {x x' : RgV} {vs : List Value} {es : List (List UInt8)} {note : List UInt8} (h : RgOn w rg p d x vs es note) {q q' : Option Addr} {n c c' : Nat} {e : List UInt8} (he : Ent (rg + 1) w (.slice q n c) e)
    (hne : ∀ a, x.eq = some a → ∀ b, q = some b → b.block ≠ a.block) (hr : RgAt w' rg x') (hx : x'.dp = x.dp ∧ x'.nq = x.nq ∧ x'.nl = x.nl ∧ x'.nc = x.nc ∧ x'.eq = q' ∧ x'.el = x.el + 1 ∧ x'.ec = c')
    (hown : OwnV 30 w2 (rg + 1) (.slice q' (x.el + 1) c') (vs ++ [.slice q n c])) (hb : Below w.heap.size w w1) (hg : w1.grownBy w2 (x.eq.map (·.block))) (hat : q'.map (·.block) = x.eq.map (·.block) ∨ q'.map (·.block) = some w1.heap.size) (hg3 : w2.grownBy w' (some rg)) :
    RgOn w' rg p d x' (vs ++ [.slice q n c]) (es ++ [e]) note := by
  obtain ⟨hd, hn1, hn2, hn3, he1, he2, he3⟩ := hx
  have hsz := h.size
  have hsame : ∀ k, k < w.heap.size → k ≠ rg → (∀ a, x.eq = some a → k ≠ a.block) → w'.heap[k]? = w.heap[k]? := fun k h1 h2 h3 => by
    rw [hg3.block k (by have := hb.size; have := hg.size; omega) (fun e => by cases e; exact h2 rfl), hg.block k (by have := hb.size; omega) (fun e => ?_), hb.block k h1]
    cases hq : x.eq with
    | none => rw [hq] at e; cases e
    | some a => rw [hq] at e; exact h3 a hq (by simpa using e)
  have hs' : w.heap.size ≤ w'.heap.size := Nat.le_trans hb.size (Nat.le_trans hg.size hg3.size)
  have heq : ∀ a, x.eq = some a → rg + 1 ≤ a.block ∧ a.block < w.heap.size := h.own.far
  have hlow : ∀ j ∈ p.L, w'.heap[j]? = w.heap[j]? := fun j hj => hsame j (by have := h.low j hj; omega) (by have := h.low j hj; omega) (fun a ha => by have := h.low j hj; have := (heq a ha).1; omega)
  have hrow : ∀ v f, Ent (rg + 1) w v f → (∀ a, x.eq = some a → ∀ b m k, v = .slice (some b) m k → b.block ≠ a.block) → Ent (rg + 1) w' v f := fun v f hv hap =>
    hv.keep hs' fun b m k hvb h1 h2 => hsame b.block h2 (by omega) fun a ha => hap a ha b m k hvb
  have hmem : ∀ v ∈ vs ++ [.slice q n c], ∀ b m k, v = .slice (some b) m k → b.block < w.heap.size ∧ ∀ a, x.eq = some a → b.block ≠ a.block := fun v hv b m k e => by
    rcases List.mem_append.1 hv with hv | hv
    · obtain ⟨i, hi⟩ := List.mem_iff_getElem?.1 hv
      obtain ⟨f, hf⟩ : ∃ f, es[i]? = some f := ⟨_, List.getElem?_eq_getElem (by rw [← h.len]; exact (List.getElem?_eq_some_iff.1 hi).1)⟩
      obtain ⟨q3, n3, c3, e3, hl3⟩ := (h.ent i v f hi hf).lies
      rw [e3] at e
      cases e
      exact ⟨(hl3 b rfl).2.1, fun a ha => (h.apart a ha).1 v hv b _ _ e3⟩
    · rw [List.mem_singleton.1 hv] at e
      cases e
      obtain ⟨q3, n3, c3, e3, hl3⟩ := he.lies
      cases e3
      exact ⟨(hl3 b rfl).2.1, fun a ha => hne a ha b rfl⟩
  have hqn : ∀ a, x'.eq = some a → a.block = w1.heap.size ∨ ∃ a0, x.eq = some a0 ∧ a.block = a0.block := fun a ha => by
    rw [he1] at ha
    rw [ha] at hat
    rcases hat with hat | hat
    · cases hq : x.eq with
      | none => rw [hq] at hat; cases hat
      | some a0 => rw [hq] at hat; exact .inr ⟨a0, rfl, by simpa using hat⟩
    · exact .inl (by simpa using hat)
  refine ⟨h.disk.block (hlow _ (g_in p)) (hlow _ (h_in p)) (hlow _ (m_in p)), h.low, hr, by rw [hd]; exact h.dp, ?_, by rw [List.length_append, List.length_append, h.len]; rfl, fun i v f hv hf => ?_, ?_, fun a ha => ⟨fun v hv b m k e => ?_, fun b hb2 => ?_⟩⟩
  · rw [he1, he2, he3]
    exact hown.kept fun a ha => hg3.block _ (hown.far a ha).2 (fun e => by have h1 := (hown.far a ha).1; have h2 : a.block = rg := by simpa using e
                                                                           omega)
  · rcases Nat.lt_or_ge i vs.length with hi | hi
    · rw [List.getElem?_append_left hi] at hv
      rw [List.getElem?_append_left (by rw [← h.len]; exact hi)] at hf
      exact hrow v f (h.ent i v f hv hf) fun a ha b m k e => (hmem v (List.mem_append_left _ (List.mem_of_getElem? hv)) b m k e).2 a ha
    · rw [List.getElem?_append_right hi] at hv
      rw [List.getElem?_append_right (by rw [← h.len]; exact hi)] at hf
      obtain ⟨_, rfl⟩ : i - vs.length = 0 ∧ v = .slice q n c := by
        have := (List.getElem?_eq_some_iff.1 hv).1
        have h0 : i - vs.length = 0 := by simpa using this
        rw [h0] at hv
        exact ⟨h0, by simpa using hv.symm⟩
      have h0 : i - es.length = 0 := by have := (List.getElem?_eq_some_iff.1 hf).1; simpa using this
      rw [h0] at hf
      obtain rfl : e = f := by simpa using hf
      exact hrow _ _ he fun a ha b m k e2 => by cases e2; exact hne a ha b rfl
  · rw [hn1, hn2, hn3]
    exact hrow _ _ h.note fun a ha b m k e => (h.apart a ha).2 b (by have := (Value.slice.inj e).1; exact this)
  · rcases hqn a ha with h1 | ⟨a0, h1, h2⟩
    · have := (hmem v hv b m k e).1
      have := hb.size
      omega
    · rw [h2]; exact (hmem v hv b m k e).2 a0 h1
  · rw [hn1] at hb2
    rcases hqn a ha with h1 | ⟨a0, h1, h2⟩
    · obtain ⟨q3, n3, c3, e3, hl3⟩ := h.note.lies
      cases e3
      have := (hl3 b hb2).2.1
      have := hb.size
      omega
    · rw [h2]; exact (h.apart a0 h1).2 b hb2

end Go.Proofs.YtjhnagipagkhiaaGreat
