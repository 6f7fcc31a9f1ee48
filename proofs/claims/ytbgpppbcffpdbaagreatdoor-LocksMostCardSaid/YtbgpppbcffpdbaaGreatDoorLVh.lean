/- Ask of the document on locks. -/
import Derived.Test.YtbgpppbcffpdbaaGreatDoorLVn
import Derived.Deep.DeepCutAuto
namespace Go.Proofs.YtbgpppbcffpdbaaGreatDoor
open Go.RowKit

/-- what the document's calls leave: locks that read as these -/
def RAskP (w0 : World) (L' : List QueD) (a er : Int) (w : World) (e : Ending) (w' : World) : Prop := ∃ q' n' c' V', e = .returned (.tuple #[.agg #[.slice q' n' c'], .int .i64 a, .int .i64 er]) ∧ (∀ u, Fr (fun j => w0.heap.size ≤ j ∧ j < w.heap.size) w' u → LkOn u q' n' c' V' L') ∧ Below w.heap.size w w'
/-- the list of queues that is being laid, behind its box -/
structure AkR (W3 : World) (G : Nat) (l : List (QV × QueD)) (m : Nat) (q : Option Addr) (c : Nat) (wr : World) : Prop where
  len : l.length = m
  row : OwnS 43 wr W3.heap.size (.slice q m c) (l.map (·.1))
  box : RowV 24 wr G [.slice q m c]
  fr : Fr (fun j => j = G) W3 wr
theorem AkR.far {W3 wr : World} {G m : Nat} {l : List (QV × QueD)} {q : Option Addr} {c : Nat} (h : AkR W3 G l m q c wr) (hG : G < W3.heap.size) : some G ≠ q.map (·.block) := fun e => by
  cases q with
  | none => cases e
  | some b =>
    have e2 : G = b.block := by simpa using e
    have := (h.row.far b rfl).1
    omega
theorem AkR.next {W3 wr u u7 u8 : World} {G m : Nat} {l : List (QV × QueD)} {a : QV × QueD} {q q' : Option Addr} {c c' : Nat} (h : AkR W3 G l m q c wr) (hG : G < W3.heap.size) (hb : Below wr.heap.size wr u) (hr : OwnS 43 u7 W3.heap.size (.slice q' (m + 1) c') (l.map (·.1) ++ [a.1])) (hg : u.grownBy u7 (q.map (·.block))) (h8 : u7.setCell ⟨G, 0, none⟩ (.slice q' (m + 1) c') = u8) : AkR W3 G (l ++ [a]) (m + 1) q' c' u8 := by
  have hx7 := (h.box.below hb).block (hg.block _ (h.box.below hb).lt (h.far hG))
  have hx8 := hx7.set 0 (.slice q' (m + 1) c')
  rw [h8] at hx8
  have hf8 : Fr (fun j => j = G) u7 u8 := by rw [← h8]; exact Fr.of_set _ _ _ rfl
  refine ⟨by rw [List.length_append, h.len]; rfl, ?_, hx8, ?_⟩
  · rw [List.map_append]
    exact hr.fr hf8 (fun b hb e => by have h1 := (hr.far b hb).1; have e2 : b.block = G := e; omega)
  · refine ((h.fr.trans (Fr.of_below hb)).then (T := fun j => some j = q.map (·.block)) (Fr.of_grown hg (fun j e => e.symm)) (fun j hj e => ?_)).trans hf8
    cases q with
    | none => cases e
    | some b =>
      have e2 : j = b.block := by simpa using e
      have h1 := (h.row.far b rfl).1
      omega
theorem AkR.mono {W3 wr u : World} {G m : Nat} {l : List (QV × QueD)} {q : Option Addr} {c : Nat} (h : AkR W3 G l m q c wr) (hb : Below wr.heap.size wr u) : AkR W3 G l m q c u := ⟨h.len, h.row.below hb, h.box.below hb, h.fr.trans (Fr.of_below hb)⟩
theorem AkR.lk {W3 wr u : World} {G m : Nat} {l : List (QV × QueD)} {q : Option Addr} {c : Nat} (h : AkR W3 G l m q c wr) (hon : ∀ a ∈ l, a.1.On u a.2) (hr : OwnS 43 u W3.heap.size (.slice q m c) (l.map (·.1))) : LkOn u q m c (l.map (·.1)) (l.map (·.2)) :=
  ⟨hr.reads, by simp [h.len], fun i v d hv hd => by
    rw [List.getElem?_map] at hv hd
    cases hx : l[i]? with
    | none => rw [hx] at hv; cases hv
    | some a =>
      rw [hx] at hv hd
      cases hv; cases hd
      exact hon a (List.mem_of_getElem? hx)⟩
theorem boxed_fr {S : Nat → Prop} {u u' : World} {g : Nat} {vs : List Value} (h : Boxed u g vs) (hf : Fr S u u') (hn : ¬ S g) : Boxed u' g vs := fun j x hj => by
  have h1 := h j x hj
  have hb : ((⟨g, 0, none⟩ : Addr).add j).block = g := by unfold Addr.add; split <;> rfl
  rw [World.cell?_of_block (w := u) (hf.block _ (World.block_lt_of_cell? u _ h1) (by rw [hb]; exact hn))]
  exact h1
theorem neqRes2 (w : World) (a : Int) (b : Bool) (c : Int) (d : Int) (e : Bool) (f : Int) : (binOp .neq 30 (.agg #[.int .i64 a, .bool b, .int .u16 c]) (.agg #[.int .i64 d, .bool e, .int .u16 f])).run Tryz.prog w = .ok (.bool (!decide ((⟨a, b, c⟩ : ResD) = ⟨d, e, f⟩))) w := by
  have hS : Tryz.prog.underlying 30 = some (.struct (Tryz.prog.fieldsOf 30)) := by kernel_rfl
  have hp : Tryz.prog.stoodInHeld 30 = false := by kernel_rfl
  have u3 := Tryz.underlying3
  have u4 := Tryz.underlying4
  have u5 := Tryz.underlying28
  have a3 := Tryz.isAgg3
  have a4 := Tryz.isAgg4
  have a5 := Tryz.isAgg28
  have z3 := Tryz.sizeOf3
  have z4 := Tryz.sizeOf4
  have z5 := Tryz.sizeOf28
  rw [run_neq_struct, show (10000 : Nat) = 9999 + 1 from rfl, run_equalIn_agg w 9999 30 _ _ hS hp]
  simp only [Program.fieldsOf, Tryz.underlying30]
  clear hS hp
  go_simp
  by_cases h1 : a = d <;> by_cases h2 : b = e <;> by_cases h3 : c = f <;> simp [h1, h2, h3]
theorem nots {W3 : World} {lq : Option Addr} {G g : Nat} (h : ∀ b, lq = some b → W3.heap.size ≤ b.block ∧ b.block < g) (h1 : G < g) : ¬ (g = G ∨ some g = lq.map (·.block)) := fun e => by
  rcases e with e | e
  · omega
  · cases lq with
    | none => cases e
    | some b =>
      have e2 : g = b.block := by simpa using e
      have h3 := h b rfl
      omega
theorem nots2 {W3 : World} {lq : Option Addr} {G g k : Nat} (h : ∀ b, lq = some b → W3.heap.size ≤ b.block ∧ b.block < k) (h1 : g < G) (h2 : G < W3.heap.size) : ¬ (g = G ∨ some g = lq.map (·.block)) := fun e => by
  rcases e with e | e
  · omega
  · cases lq with
    | none => cases e
    | some b =>
      have e2 : g = b.block := by simpa using e
      have h3 := h b rfl
      omega
theorem ask_fin {L : List QueD} {r : ResD} {x want own : Int} {D : QueD} {gd : Bool} {L' : List QueD} {a er : Int} (h : (if goesW (qOf L r).hs ⟨x, want, own⟩ = true ∧ (convB ⟨x, want, own⟩ = true ∨ (qOf L r).ws.length = 0) then (chgL L r (graD ⟨x, want, own⟩), 2, 0) else (chgL L r (linD ⟨x, want, own⟩), 3, 0)) = (L', a, er)) (hs : D.hs = (qOf L r).hs) (hw : D.ws = (qOf L r).ws) (hg : (goesF D.hs x want && (decide (own ≠ 0) || decide (D.ws.length = 0))) = gd) :
    chgL L r (fun d => if gd = true then graD ⟨x, want, own⟩ d else linD ⟨x, want, own⟩ d) = L' ∧ (if gd = true then 2 else 3) = a ∧ 0 = er := by
  have hc : (goesW (qOf L r).hs ⟨x, want, own⟩ = true ∧ (convB ⟨x, want, own⟩ = true ∨ (qOf L r).ws.length = 0)) ↔ gd = true := by
    rw [← hg, goesF_W, ← hs, ← hw]
    unfold convB
    simp
  by_cases hgd : gd = true
  · rw [if_pos (hc.2 hgd)] at h
    simp only [hgd, if_true]
    cases h
    exact ⟨rfl, rfl, rfl⟩
  · rw [if_neg (fun h => hgd (hc.1 h))] at h
    simp only [hgd]
    cases h
    exact ⟨rfl, rfl, rfl⟩
theorem resB_t2 {r : ResD} (h : resB r = true) : 0 ≤ r.t ∧ r.t < 3 := by
  unfold resB at h
  simp only [Bool.and_eq_true, decide_eq_true_eq] at h
  exact h.1
theorem zip_snd {V : List QV} {L : List QueD} (h : V.length = L.length) : (V.zip L).map (·.2) = L := by
  rw [List.map_snd_zip (by omega)]
theorem zip_at {V : List QV} {L : List QueD} {i : Nat} {v : QV} {d : QueD} (hv : V[i]? = some v) (hd : L[i]? = some d) : (V.zip L)[i]? = some (v, d) := by
  rw [List.getElem?_zip_eq_some]
  exact ⟨hv, hd⟩
theorem old_below {w0 w w' u : World} (h0 : Below w0.heap.size w0 w) (h : Below w.heap.size w w') (hf : Fr (fun j => w0.heap.size ≤ j ∧ j < w.heap.size) w' u) : Below w0.heap.size w0 u := by
  have h1 := below_step h h0
  exact h1.trans (hf.below h1.size (fun j e => e.1))
theorem SlOn.frs {α : Type} [Cel α] {S : Nat → Prop} {w u : World} {q : Option Addr} {n c : Nat} {l : List α} (h : SlOn w q n c l) (hf : Fr S w u) (hn : ∀ a, q = some a → ¬ S a.block) : SlOn u q n c l :=
  ⟨h.len, h.le, h.cap, h.nil, fun i r hi => by
    obtain ⟨a, ha, hc⟩ := h.get i r hi
    refine ⟨a, ha, fun j x hj => ?_⟩
    have hlt := cell_in (hc j x hj)
    rw [add_block2] at hlt
    rw [World.cell?_of_block (w := w) (by rw [add_block2]; exact hf.block _ hlt (hn a ha))]
    exact hc j x hj⟩
theorem QV.On.frs {S : Nat → Prop} {w u : World} {v : QV} {d : QueD} (h : v.On w d) (hf : Fr S w u) (h1 : ∀ a, v.hq = some a → ¬ S a.block) (h2 : ∀ a, v.wq = some a → ¬ S a.block) : v.On u d := ⟨h.res, h.ok, h.hs.frs hf h1, h.ws.frs hf h2⟩
theorem eqRes2 (w : World) (a : Int) (b : Bool) (c : Int) (d : Int) (e : Bool) (f : Int) : (binOp .eql 30 (.agg #[.int .i64 a, .bool b, .int .u16 c]) (.agg #[.int .i64 d, .bool e, .int .u16 f])).run Tryz.prog w = .ok (.bool (decide ((⟨a, b, c⟩ : ResD) = ⟨d, e, f⟩))) w := by
  have hS : Tryz.prog.underlying 30 = some (.struct (Tryz.prog.fieldsOf 30)) := by kernel_rfl
  have hp : Tryz.prog.stoodInHeld 30 = false := by kernel_rfl
  have u3 := Tryz.underlying3
  have u4 := Tryz.underlying4
  have u5 := Tryz.underlying28
  have a3 := Tryz.isAgg3
  have a4 := Tryz.isAgg4
  have a5 := Tryz.isAgg28
  have z3 := Tryz.sizeOf3
  have z4 := Tryz.sizeOf4
  have z5 := Tryz.sizeOf28
  rw [run_eql_struct, show (10000 : Nat) = 9999 + 1 from rfl, run_equalIn_agg w 9999 30 _ _ hS hp]
  simp only [Program.fieldsOf, Tryz.underlying30]
  clear hS hp
  go_simp
  by_cases h1 : a = d <;> by_cases h2 : b = e <;> by_cases h3 : c = f <;> simp [h1, h2, h3]
/-- how far the queue is looked for -/
structure AqR (W2 : World) (G : Nat) (r : ResD) (L : List QueD) (i : Nat) (z : Int) (v : QV) (wr : World) : Prop where
  box : RowV 43 wr G (Cel.cells v)
  on : (z = -1 ∧ (∀ j d, j < i → L[j]? = some d → d.res ≠ r) ∧ v.On wr ⟨r, [], []⟩) ∨ (∃ (j : Nat) (d : QueD), j < i ∧ z = j ∧ L[j]? = some d ∧ d.res = r ∧ v.On wr d)
  fr : Fr (fun j => j = G) W2 wr
  ne : (∀ a, v.hq = some a → W2.heap.size ≤ a.block) ∧ (∀ a, v.wq = some a → W2.heap.size ≤ a.block)
theorem AqR.skip {W2 : World} {G : Nat} {r : ResD} {L : List QueD} {i : Nat} {z : Int} {v : QV} {wr u : World} (h : AqR W2 G r L i z v wr) {d : QueD} (hd : L[i]? = some d) (hr : d.res ≠ r) (hb : Below wr.heap.size wr u) : AqR W2 G r L (i + 1) z v u := by
  refine ⟨h.box.below hb, ?_, h.fr.trans (Fr.of_below hb), h.ne⟩
  rcases h.on with ⟨h1, h2, h3⟩ | ⟨j, d', h1, h2, h3, h4, h5⟩
  · refine .inl ⟨h1, fun j e hj he => ?_, h3.below hb (Nat.le_refl _)⟩
    rcases Nat.lt_or_ge j i with h4 | h4
    · exact h2 j e h4 he
    · obtain rfl : j = i := by omega
      rw [hd] at he; cases he
      exact hr
  · exact .inr ⟨j, d', by omega, h2, h3, h4, h5.below hb (Nat.le_refl _)⟩
theorem AqR.done {W2 : World} {G : Nat} {r : ResD} {L : List QueD} {n : Nat} {z : Int} {v : QV} {wr : World} (h : AqR W2 G r L n z v wr) (hso : SortQ L) (hl : L.length = n) {D : QueD} (hD : (if thereQ L r = true then qOf L r else ⟨r, [], []⟩) = D) : ((z = -1 ∧ thereQ L r = false) ∨ (∃ j : Nat, z = j ∧ thereQ L r = true)) ∧ v.On wr D := by
  rcases h.on with ⟨h1, h2, h3⟩ | ⟨j, d', h1, h2, h3, h4, h5⟩
  · have h4 := sz_none hl h2
    rw [h4, if_neg (by simp)] at hD
    subst hD
    exact ⟨.inl ⟨h1, h4⟩, h3⟩
  · obtain ⟨h6, h7⟩ := sz_some hso h3 h4
    rw [if_pos h6, h7] at hD
    subst hD
    exact ⟨.inr ⟨j, h2, h6⟩, h5⟩
theorem qOf_sorts {L : List QueD} (h : ChkOk L) (r : ResD) : SortH (qOf L r).hs := by
  unfold qOf
  cases hx : L[posQ L r]? with
  | none => exact List.Pairwise.nil
  | some d =>
    by_cases hr : d.res = r
    · simp only [hr, if_true]; exact h.sorts d (List.mem_of_getElem? hx)
    · simp only [hr, if_false]; exact List.Pairwise.nil
theorem want_no' {hs : List HoldD} {x m own : Int} (h1 : heldH hs x = own) (h2 : covB own m = false) : wantE hs x m = (⟨x, supM own m, own⟩, false) := by
  unfold wantE
  rw [h1, if_neg (by simp [h2])]
theorem own_or {L : List QueD} (h : ChkOk L) (r : ResD) (x : Int) : heldH (qOf L r).hs x = 0 ∨ modB r.k (heldH (qOf L r).hs x) = true := by
  cases ht : thereQ L r with
  | false => rw [(qOf_none ht).1]; exact .inl rfl
  | true =>
    obtain ⟨d, h1, h2, h3⟩ := there_some ht
    rw [h3]
    have hd := List.mem_of_getElem? h1
    rcases held_or (h.sorts d hd) x with ⟨a, ha, _, e⟩ | ⟨_, e⟩
    · rw [e, ← h2]; exact .inr ((h.fit d hd).hs.one a ha).2
    · exact .inl e
theorem LkOn.none_ (w : World) : LkOn w none 0 0 [] [] := ⟨SlOn.none_ _, rfl, fun i v d h => by simp at h⟩
set_option maxRecDepth 100000 in
set_option maxHeartbeats 4000000 in
theorem rAsk_go (q : Option Addr) (n c : Nat) (V : List QV) (L : List QueD) (x t : Int) (k : Bool) (id m : Int) (w0 w : World) (h0 : LkOn w0 q n c V L) (hw0 : Below w0.heap.size w0 w) (htx : txnB x = true) (hrs : resB ⟨t, k, id⟩ = true) (hmd : modB k m = true) (hno : wtOf L x = none) (hck : ChkOk L) (hsm : Sm L) (L' : List QueD) (a er : Int) (hF : askF L x ⟨t, k, id⟩ m = (L', a, er)) (g0 : 0 ≤ id) (g1 : id < 65536) :
    Calls Tryz.prog 35 #[.agg #[.slice q n c], .int .i64 x, .agg #[.int .i64 t, .bool k, .int .u16 id], .int .i64 m] w (RAskP w0 L' a er w) := by
  have h : LkOn w q n c V L := h0.below hw0 (Nat.le_refl _)
  have hon0 := Lib.hid h0
  have hw0' := Lib.hid hw0
  clear h0 hw0
  obtain ⟨W0, hW0⟩ : ∃ W, w.alloc (.cells #[.slice q n c] 24) = W := ⟨_, rfl⟩
  have hb0 := Lib.hid (one_box (xs := [.slice q n c]) hW0)
  obtain ⟨W1, hW1⟩ : ∃ W, W0.alloc (.cells #[.int .i64 t, .bool k, .int .u16 id] 30) = W := ⟨_, rfl⟩
  have hb1 := Lib.hid (one_box (xs := [.int .i64 t, .bool k, .int .u16 id]) hW1)
  obtain ⟨W, hW⟩ : ∃ W, W1.alloc (.cells #[.slice none 0 0] 24) = W := ⟨_, rfl⟩
  have hb2 := Lib.hid (one_box (xs := [.slice none 0 0]) hW)
  have hr2 : Hid (RowV 24 W W1.heap.size [.slice none 0 0]) := RowV.made' (cs := [.slice none 0 0]) hW
  have hb12 := Lib.hid (below_step hb2.out.1 hb1.out.1)
  have hbW := Lib.hid (below_step hb12.out hb0.out.1)
  have hs0 : Hid (W0.heap.size = w.heap.size + 1 ∧ W1.heap.size = w.heap.size + 2 ∧ W.heap.size = w.heap.size + 3) := by have h1 := hb0.out.2.2; have h2 := hb1.out.2.2; have h3 := hb2.out.2.2; exact ⟨by omega, by omega, by omega⟩
  have x0 := Lib.hid (hb0.out.2.1.below hb12.out (Nat.le_refl _))
  have x1 := Lib.hid (hb1.out.2.1.below hb2.out.1 (Nat.le_refl _))
  have hh := Lib.hid (h.below hbW.out (Nat.le_refl _))
  have s1 := sizeLks (.slice q n c)
  have s0 := sizeLks (.slice none 0 0)
  have s3 := sizeRes (.int .i64 t) (.bool k) (.int .u16 id)
  have hone0 : ∀ y ∈ ([.slice none 0 0] : List Value), y.oneCell' = true := fun y hy => by obtain rfl := List.mem_singleton.1 hy; rfl
  have hone1 : ∀ y ∈ ([.slice q n c] : List Value), y.oneCell' = true := fun y hy => by obtain rfl := List.mem_singleton.1 hy; rfl
  have htb := Lib.hid htx
  have hrb := Lib.hid hrs
  have hmb := Lib.hid hmd
  have hwt : Hid (WaitsF L x ⟨0, false, 0⟩ 0 false) := .inl ⟨hno, rfl, rfl, rfl⟩
  have hck' := Lib.hid hck
  have hsm' := Lib.hid hsm
  have hF' := Lib.hid hF
  have hg : Hid (0 ≤ id ∧ id < 65536) := ⟨g0, g1⟩
  have hll := Lib.hid h.len
  have hn5 : Hid (n ≤ 500) := by show _ ≤ _; have h1 := h.len; have h2 := hck.len; omega
  have hn5' := hn5.out
  have hso := Lib.hid hck.sort
  clear h htx hrs hmd hno hck hsm hF g0 g1
  go_enter Tryz.func35, Tryz.ntmps35
  go_upto_region 7 with (first
    | (go_at_call 74
       refine (rtxn_any x W true htb.out).mono ?_
       rintro e w1 ⟨rfl, hw1⟩
       obtain rfl := hw1.symm
       have r0 := x1.out.cell 0 rfl
       have r1 := x1.out.cell 1 rfl
       have r2 := x1.out.cell 2 rfl)
    | (go_at_call 76
       refine (rres_any t k id W true hrb.out).mono ?_
       rintro e w2 ⟨rfl, hw2⟩
       have hb3 := Lib.hid hw2
       have r0 := (x1.out.below hw2 (Nat.le_refl _)).cell 0 rfl
       have r1 := (x1.out.below hw2 (Nat.le_refl _)).cell 1 rfl
       have r2 := (x1.out.below hw2 (Nat.le_refl _)).cell 2 rfl
       clear hw2)
    | (go_at_call 77
       refine (rmode_any t k id m w2 true hmb.out).mono ?_
       rintro e w3 ⟨rfl, hw3⟩
       have hb4 := Lib.hid (below_step hw3 hb3.out)
       clear hw3 r0 r1 r2)
    | (with_reducible refine wpList_load_at rfl 24 (.tmp 4) rfl Tryz.underlying24 rfl s1 rfl (x0.out.below hb4.out (Nat.le_refl _)).all ?_)
    | (go_at_call 22
       refine (rWaits_any q n c V L x 0 false 0 0 false hwt.out w3 (hh.out.below hb4.out (Nat.le_refl _))).mono ?_
       rintro e w4 ⟨rfl, hb⟩
       obtain ⟨w5, hw5⟩ : ∃ u, w4.alloc (.cells #[.int .i64 0, .bool false, .int .u16 0] 30) = u := ⟨_, rfl⟩
       have hb5 := Lib.hid (one_box (xs := [.int .i64 0, .bool false, .int .u16 0]) hw5)
       have rz5 : Hid (RowV 30 w5 w4.heap.size [.int .i64 0, .bool false, .int .u16 0]) := RowV.made' (cs := [.int .i64 0, .bool false, .int .u16 0]) hw5
       have hbW4 := Lib.hid (below_step hb hb4.out)
       have hbW5 := Lib.hid (below_step hb5.out.1 hbW4.out)
       have sv : (Tryz.prog.info? 30).map (·.size) = some ([.int .i64 0, .bool false, .int .u16 0] : List Value).length := sizeRes _ _ _
       have hone : ∀ y ∈ ([.int .i64 0, .bool false, .int .u16 0] : List Value), y.oneCell' = true := fun y hy => by simp only [List.mem_cons, List.not_mem_nil, or_false] at hy; rcases hy with rfl | rfl | rfl <;> rfl
       clear hb)
    | ((with_reducible refine wpList_store_at rfl 30 (.tmp 11) (.tmp 44) rfl (o := 0) (vs := [.int .i64 0, .bool false, .int .u16 0]) rfl rfl rz5.out sv (Nat.le_refl _) hone ?_)
       intro w6 h6 hg6
       have hbW6 : Hid (Below W.heap.size W w6) := low_step hbW5.out hg6 hbW4.out.size
       clear h6 hg6 hone hw5))
  have hx6 := Lib.hid (x1.out.below hbW6.out (Nat.le_refl _))
  obtain ⟨Wz, hWz⟩ : ∃ u, w6.alloc (.cells #[.int .i64 0, .bool false, .int .u16 0, .slice none 0 0, .slice none 0 0] 43) = u := ⟨_, rfl⟩
  have hbz := Lib.hid (one_box (xs := [.int .i64 0, .bool false, .int .u16 0, .slice none 0 0, .slice none 0 0]) hWz)
  have rzq : Hid (RowV 43 Wz w6.heap.size [.int .i64 0, .bool false, .int .u16 0, .slice none 0 0, .slice none 0 0]) := RowV.made' (cs := [.int .i64 0, .bool false, .int .u16 0, .slice none 0 0, .slice none 0 0]) hWz
  have sq0 := sizeQue (.int .i64 t) (.bool k) (.int .u16 id) (.slice none 0 0) (.slice none 0 0)
  have honeq : ∀ y ∈ ([.int .i64 t, .bool k, .int .u16 id, .slice none 0 0, .slice none 0 0] : List Value), y.oneCell' = true := fun y hy => by simp only [List.mem_cons, List.not_mem_nil, or_false] at hy; rcases hy with rfl | rfl | rfl | rfl | rfl <;> rfl
  go_wp2_with (first
    | (with_reducible refine wpList_load_at rfl 30 (.tmp 6) rfl Tryz.underlying30 rfl s3 rfl hx6.out.all ?_)
    | ((with_reducible refine wpList_store_at rfl 43 (.tmp 15) (.tmp 50) rfl (o := 0) (vs := [.int .i64 t, .bool k, .int .u16 id, .slice none 0 0, .slice none 0 0]) rfl rfl rzq.out sq0 (Nat.le_refl _) honeq ?_)
       intro W2 h2 hg2
       have hrq : Hid (RowV 43 W2 w6.heap.size (Cel.cells (⟨⟨t, k, id⟩, none, 0, 0, none, 0, 0⟩ : QV))) := h2
       have hbq : Hid (Below w6.heap.size w6 W2) := low_step hbz.out.1 hg2 (Nat.le_refl _)
       have hbW2 := Lib.hid (below_step hbq.out hbW6.out)
       have c0 := (x0.out.below hbW2.out (Nat.le_refl _)).cell 0 rfl
       have hGq : Hid (W.heap.size ≤ w6.heap.size ∧ w6.heap.size < W2.heap.size) := ⟨hbW6.out.size, by have h1 := hbz.out.2.2; have h2 := hg2.size; omega⟩
       clear h2 hg2 honeq hWz))
  clear c0
  have hst0 : Hid (AqR W2 w6.heap.size ⟨t, k, id⟩ L 0 (-1) ⟨⟨t, k, id⟩, none, 0, 0, none, 0, 0⟩ W2) := ⟨hrq.out, .inl ⟨rfl, fun i d hi => by omega, rfl, hg.out, SlOn.none_ _, SlOn.none_ _⟩, Fr.refl _ _, ⟨fun a h => absurd h (by simp), fun a h => absurd h (by simp)⟩⟩
  go_loopw [14, 54] (fun v14 v54 wr => ∃ (i : Nat) (z : Int) (v : QV), i ≤ n ∧ v54 = .int .i64 i ∧ v14 = .int .i64 z ∧ Hid (AqR W2 w6.heap.size ⟨t, k, id⟩ L i z v wr)) (fun v14 v54 _ => n - (intOf v54).toNat)
  case atStart => exact ⟨0, -1, _, Nat.zero_le _, rfl, rfl, hst0⟩
  case round =>
    obtain ⟨i, z, v, hi, rfl, rfl, hr⟩ := hrel
    obtain ⟨wo, rfl⟩ : ∃ u, u = wr := ⟨_, rfl⟩
    have hbo : Hid (Below W.heap.size W wo) := hbW2.out.trans (hr.out.fr.below hbW2.out.size (fun j e => by have e2 : j = w6.heap.size := e; have := hGq.out; omega))
    by_cases hlt : i < n
    · obtain ⟨A, ⟨⟨rt, rk, ri⟩, hq, hn, hc, wq, wn, wc⟩, d, hqA, hV, hd, hond, hcA⟩ := (hh.out.below hbo.out (Nat.le_refl _)).at hlt
      subst hqA
      have hcell : Hid (∀ j' v, ([.int .i64 rt, .bool rk, .int .u16 ri, .slice hq hn hc, .slice wq wn wc] : List Value)[j']? = some v → wo.cell? ((A.add (i * 5)).add j') = some v) := fun j' v hj => hcA j' v hj
      have sq := sizeQue (.int .i64 rt) (.bool rk) (.int .u16 ri) (.slice hq hn hc) (.slice wq wn wc)
      have i0 : (0 : Int) ≤ i := by omega
      have i1 : (i : Int) < n := by omega
      obtain ⟨WA, hWA⟩ : ∃ W', wo.alloc (.cells #[.int .i64 rt, .bool rk, .int .u16 ri, .slice hq hn hc, .slice wq wn wc] 43) = W' := ⟨_, rfl⟩
      have hbA := Lib.hid (one_box (xs := [.int .i64 rt, .bool rk, .int .u16 ri, .slice hq hn hc, .slice wq wn wc]) hWA)
      have hd' := Lib.hid hd
      have hond' := Lib.hid (hond.below hbA.out.1 (Nat.le_refl _))
      have hboA := Lib.hid (below_step hbA.out.1 hbo.out)
      have hresA : Hid (∀ j v, ([.int .i64 rt, .bool rk, .int .u16 ri] : List Value)[j]? = some v → WA.cell? ((⟨wo.heap.size, 0, none⟩ : Addr).add j) = some v) := fun j v hj => hbA.out.2.1.part (o := 0) (ys := [.int .i64 rt, .bool rk, .int .u16 ri]) (fun j v hj => by match j, hj with | 0, h => exact h | 1, h => exact h | 2, h => exact h | j + 3, h => simp at h) j v hj
      have hx8 := Lib.hid (x1.out.below hboA.out (Nat.le_refl _))
      have sr := sizeRes (.int .i64 rt) (.bool rk) (.int .u16 ri)
      have heq := fun u => eqRes2 u rt rk ri t k id
      have hcp := Lib.hid (rcopied_any _ d WA hond'.out ⟨(hsm'.out d (List.mem_of_getElem? hd)).1, (hsm'.out d (List.mem_of_getElem? hd)).2⟩)
      clear hcA hV hd hond
      by_cases hre : (⟨rt, rk, ri⟩ : ResD) = ⟨t, k, id⟩
      · rw [decide_eq_true hre] at heq
        have hre' := Lib.hid hre
        have hdr : Hid (d.res = ⟨t, k, id⟩) := by show _ = _; rw [← hond'.out.res]; exact hre
        clear hre
        have hbx : Hid (RowV 43 WA w6.heap.size [.int .i64 v.res.t, .bool v.res.k, .int .u16 v.res.id, .slice v.hq v.hn v.hc, .slice v.wq v.wn v.wc]) := hr.out.box.below hbA.out.1
        go_wp2_with (first
          | (with_reducible refine wpList_load_at rfl 43 (.tmp 57) rfl Tryz.underlying43 rfl sq rfl hcell.out ?_)
          | (with_reducible refine wpList_load_at rfl 30 (.tmp 59) rfl Tryz.underlying30 rfl sr rfl hresA.out ?_)
          | (with_reducible refine wpList_load_at rfl 30 (.tmp 6) rfl Tryz.underlying30 rfl s3 rfl hx8.out.all ?_)
          | (with_reducible refine wpList_load_at rfl 43 (.tmp 17) rfl Tryz.underlying43 rfl sq rfl hbA.out.2.1.all ?_)
          | (go_at_call 31
             refine hcp.out.mono ?_
             rintro e u1 ⟨⟨⟨vt, vk, vi⟩, vq, vn, vc, uq, un, uc⟩, he, hqo, hx1, hx2, hbu⟩
             clear hx1 hx2
             rw [QV.val_eq] at he
             simp only at he
             subst he
             have hqo' := Lib.hid hqo
             have hbu' := Lib.hid hbu
             have hbx1 := Lib.hid (hbx.out.below hbu)
             have s8 := sizeQue (.int .i64 vt) (.bool vk) (.int .u16 vi) (.slice vq vn vc) (.slice uq un uc)
             have hone8 : ∀ y ∈ ([.int .i64 vt, .bool vk, .int .u16 vi, .slice vq vn vc, .slice uq un uc] : List Value), y.oneCell' = true := fun y hy => by simp only [List.mem_cons, List.not_mem_nil, or_false] at hy; rcases hy with rfl | rfl | rfl | rfl | rfl <;> rfl
             clear hqo hbu hcp)
          | ((with_reducible refine wpList_store_at rfl 43 (.tmp 15) (.tmp 65) rfl (o := 0) (vs := [.int .i64 vt, .bool vk, .int .u16 vi, .slice vq vn vc, .slice uq un uc]) rfl rfl hbx1.out s8 (Nat.le_refl _) hone8 ?_)
             intro u2 h2 hg2
             have hbx2 : Hid (RowV 43 u2 w6.heap.size (Cel.cells (⟨⟨vt, vk, vi⟩, vq, vn, vc, uq, un, uc⟩ : QV))) := h2
             have hg2' := Lib.hid hg2
             clear h2 hg2 hone8))
        go_roundw
        case rel =>
          refine ⟨i + 1, i, ⟨⟨vt, vk, vi⟩, vq, vn, vc, uq, un, uc⟩, by omega, by go_num, rfl, hbx2.out, .inr ⟨i, d, by omega, rfl, hd'.out, hdr.out, ?_⟩, ?_, ?_⟩
          · have hlo : w6.heap.size < WA.heap.size := by have h1 := hGq.out.2; have h2 := hr.out.fr.size; have h3 := hbA.out.1.size; omega
            exact hqo'.out.on.gr hg2'.out (fun a ha e => by have h1 := (hqo'.out.hs.far a ha).1; omega) (fun a ha e => by have h1 := (hqo'.out.ws.far a ha).1; omega)
          · exact (hr.out.fr.trans (Fr.of_below (below_step hbu'.out hbA.out.1))).trans (Fr.of_grown hg2'.out (fun j e => by cases e; rfl))
          · have hlo : W2.heap.size ≤ WA.heap.size := by have h2 := hr.out.fr.size; have h3 := hbA.out.1.size; omega
            exact ⟨fun a ha => by have h1 := (hqo'.out.hs.far a ha).1; omega, fun a ha => by have h1 := (hqo'.out.ws.far a ha).1; omega⟩
        case measure => simp [intOf]; omega
      · rw [decide_eq_false hre] at heq
        have hre' : Hid (d.res ≠ ⟨t, k, id⟩) := by show _ ≠ _; rw [← hond'.out.res]; exact hre
        clear hre hcp
        go_wp2_with (first
          | (with_reducible refine wpList_load_at rfl 43 (.tmp 57) rfl Tryz.underlying43 rfl sq rfl hcell.out ?_)
          | (with_reducible refine wpList_load_at rfl 30 (.tmp 59) rfl Tryz.underlying30 rfl sr rfl hresA.out ?_)
          | (with_reducible refine wpList_load_at rfl 30 (.tmp 6) rfl Tryz.underlying30 rfl s3 rfl hx8.out.all ?_))
        go_roundw
        case rel => exact ⟨i + 1, z, v, by omega, by go_num, rfl, hr.out.skip hd'.out hre'.out hbA.out.1⟩
        case measure => simp [intOf]; omega
    · obtain rfl : n = i := by omega
      obtain ⟨⟨⟨vt, vk, vi⟩, aq, an, ac, bq, bn, bc⟩, rfl⟩ : ∃ v', v' = v := ⟨v, rfl⟩
      obtain ⟨D, hD⟩ : ∃ D : QueD, (if thereQ L ⟨t, k, id⟩ = true then qOf L ⟨t, k, id⟩ else ⟨⟨t, k, id⟩, [], []⟩) = D := ⟨_, rfl⟩
      have hz := hr.out.done hso.out hll.out hD
      obtain ⟨hzs0, hzo⟩ := hz
      have hzs := Lib.hid hzs0
      clear hzs0
      have hzo' := Lib.hid hzo
      have hDr : (⟨vt, vk, vi⟩ : ResD) = D.res := hzo.res
      have hDres : D.res = ⟨t, k, id⟩ := by rw [← hD]; split; (rename_i h1; obtain ⟨d0, _, h2, h3⟩ := there_some h1; rw [h3]; exact h2); rfl
      rw [hDres] at hDr
      cases hDr
      have hDf := zero_held (L := L) (r := ⟨t, k, id⟩) x
      rw [hD] at hDf
      have hDf' := Lib.hid hDf
      have hne := Lib.hid hr.out.ne
      have hD' := Lib.hid hD
      have hbx : Hid (RowV 43 wo w6.heap.size [.int .i64 t, .bool k, .int .u16 id, .slice aq an ac, .slice bq bn bc]) := hr.out.box
      have s9 := sizeQue (.int .i64 t) (.bool k) (.int .u16 id) (.slice aq an ac) (.slice bq bn bc)
      obtain ⟨own, hown⟩ : ∃ own, heldH (qOf L ⟨t, k, id⟩).hs x = own := ⟨_, rfl⟩
      have hqs : SortH D.hs := by rw [hDf.2.1]; exact qOf_sorts hck'.out _
      have hqs' := Lib.hid hqs
      have hwl : Hid (D.hs.length ≤ 100000 ∧ D.ws.length ≤ 100000) := by rw [hDf.2.1, hDf.2.2]; exact qOf_small hsm'.out _
      have hheld := Lib.hid (rheld_any t k id aq an ac bq bn bc D.hs x own wo hzo.hs (by rw [heldF_eq hqs, hDf.1]; exact hown))
      have hown' := Lib.hid hown
      obtain ⟨cv, hcv⟩ : ∃ cv, covB own m = cv := ⟨_, rfl⟩
      have hcv' := Lib.hid hcv
      clear hzo hDres hDf hD hqs hown hcv
      cases cv with
      | true =>
        have hwant : Hid ((wantE (qOf L ⟨t, k, id⟩).hs x m).2 = true) := by show _ = _; unfold wantE; rw [hown'.out, if_pos hcv'.out]
        have hL' : Hid (L = L' ∧ a = 1 ∧ er = 0) := by
          have h1 := hF'.out
          unfold askF at h1
          rw [if_pos hwant.out] at h1
          cases h1
          exact ⟨rfl, rfl, rfl⟩
        obtain ⟨hl1, rfl, rfl⟩ := hL'.out
        have hl1' := Lib.hid hl1
        clear hL' hl1
        have hzr := Lib.hid (hr2.out.below (hbo.out))
        go_wp2_with (first
          | (with_reducible refine wpList_load_at rfl 43 (.tmp 15) rfl Tryz.underlying43 rfl s9 rfl hbx.out.boxed.all ?_)
          | (go_at_call 51
             refine hheld.out.mono ?_
             rintro e u1 ⟨rfl, hb⟩
             have hu1 := Lib.hid (below_step hb hbo.out)
             have hou1 := Lib.hid hb
             clear hb hheld)
          | (go_at_call 78
             refine (rcov_any own m u1 true hcv'.out).mono ?_
             rintro e u2 ⟨rfl, hw2⟩
             obtain rfl := hw2.symm)
          | (with_reducible refine wpList_load_at rfl 24 (.tmp 4) rfl Tryz.underlying24 rfl s1 rfl (x0.out.below hu1.out (Nat.le_refl _)).all ?_)
          | ((with_reducible refine wpList_store_at rfl 24 (.tmp 8) (.tmp 73) rfl (o := 0) (vs := [.slice q n c]) rfl rfl (hr2.out.below hu1.out) s1 (Nat.le_refl _) hone1 ?_)
             intro w9 h9 hg9
             have q9 : Hid (RowV 24 w9 W1.heap.size [.slice q n c]) := h9
             have hfin := Lib.hid (low_step (below_step hu1.out hbW.out) hg9 (by have := hs0.out; omega))
             clear h9 hg9))
        have m0 := q9.out.cell 0
        simp only [List.getElem?_cons_zero] at m0
        exact bodyPost_ret (v := .tuple #[.agg #[.slice q n c], .int .i64 1, .int .i64 0]) (by simp [results, Tryz.results35, go_sem, m0]) rfl ⟨q, n, c, V, rfl, fun u hu => by rw [← hl1'.out]; exact hon0.out.below (old_below hw0'.out hfin.out hu) (Nat.le_refl _), hfin.out⟩
      | false =>
        have hwn := want_no' hown'.out hcv'.out
        obtain ⟨want, hwa⟩ : ∃ want, supM own m = want := ⟨_, rfl⟩
        rw [hwa] at hwn
        have hwn' := Lib.hid hwn
        have hwa' := Lib.hid hwa
        have hor : Hid (own = 0 ∨ modB k own = true) := by show _ ∨ _; rw [← hown'.out]; exact own_or hck'.out _ _
        clear hwn hwa
        by_cases hfull : thereQ L ⟨t, k, id⟩ = false ∧ L.length = 500
        · obtain ⟨hf1, hf2⟩ := hfull
          have hL' : Hid ([] = L' ∧ a = 0 ∧ er = 6) := by
            have h1 := hF'.out
            unfold askF at h1
            rw [hwn'.out, if_neg (by simp), if_pos ⟨hf1, hf2⟩] at h1
            cases h1
            exact ⟨rfl, rfl, rfl⟩
          obtain ⟨hl1, rfl, rfl⟩ := hL'.out
          subst hl1
          obtain ⟨rfl, _⟩ : z = -1 ∧ True := by rcases hzs.out with ⟨h1, _⟩ | ⟨j, _, h2⟩; exact ⟨h1, trivial⟩; rw [hf1] at h2; cases h2
          have nge : (n : Int) ≥ 500 := by have := hll.out; omega
          clear hL' hf1 hf2
          go_wp2_with (first
            | (with_reducible refine wpList_load_at rfl 43 (.tmp 15) rfl Tryz.underlying43 rfl s9 rfl hbx.out.boxed.all ?_)
            | (go_at_call 51
               refine hheld.out.mono ?_
               rintro e u1 ⟨rfl, hb⟩
               have hu1 := Lib.hid (below_step hb hbo.out)
               have hou1 := Lib.hid hb
               clear hb hheld)
            | (go_at_call 78
               refine (rcov_any own m u1 false hcv'.out).mono ?_
               rintro e u2 ⟨rfl, hw2⟩
               obtain rfl := hw2.symm)
            | (go_at_call 79
               refine (rsupM_any k own m hor.out hmb.out want hwa'.out u1).mono ?_
               rintro e u3 ⟨rfl, hw3⟩
               obtain rfl := hw3.symm
               have d0 := (x0.out.below hu1.out (Nat.le_refl _)).cell 0 rfl)
            | ((with_reducible refine wpList_store_at rfl 24 (.tmp 8) (.tmp 85) rfl (o := 0) (vs := [.slice none 0 0]) rfl rfl (hr2.out.below hu1.out) s0 (Nat.le_refl _) hone0 ?_)
               intro w9 h9 hg9
               have q9 : Hid (RowV 24 w9 W1.heap.size [.slice none 0 0]) := h9
               have hfin := Lib.hid (low_step (below_step hu1.out hbW.out) hg9 (by have := hs0.out; omega))
               clear h9 hg9))
          have m0 := q9.out.cell 0
          simp only [List.getElem?_cons_zero] at m0
          exact bodyPost_ret (v := .tuple #[.agg #[.slice none 0 0], .int .i64 0, .int .i64 6]) (by simp [results, Tryz.results35, go_sem, m0]) rfl ⟨none, 0, 0, [], rfl, fun u _ => LkOn.none_ u, hfin.out⟩
        · have hna : Hid (¬ (thereQ L ⟨t, k, id⟩ = false ∧ L.length = 500)) := hfull
          have hask := hF'.out
          unfold askF at hask
          rw [hwn'.out, if_neg (by simp), if_neg hfull] at hask
          have hask' := Lib.hid hask
          clear hfull hask
          go_upto_region 18 with (first
            | (with_reducible refine wpList_load_at rfl 43 (.tmp 15) rfl Tryz.underlying43 rfl s9 rfl hbx.out.boxed.all ?_)
            | (go_at_call 51
               refine hheld.out.mono ?_
               rintro e u1 ⟨rfl, hb⟩
               have hu1 := Lib.hid (below_step hb hbo.out)
               have hou1 := Lib.hid hb
               clear hb hheld)
            | (go_at_call 78
               refine (rcov_any own m u1 false hcv'.out).mono ?_
               rintro e u2 ⟨rfl, hw2⟩
               obtain rfl := hw2.symm)
            | (go_at_call 79
               refine (rsupM_any k own m hor.out hmb.out want hwa'.out u1).mono ?_
               rintro e u3 ⟨rfl, hw3⟩
               obtain rfl := hw3.symm))
          go_cut [84] from 77 to 84 (fun v84 wx => v84 = .bool false ∧ Hid (Below u1.heap.size u1 wx))
          case first =>
            rcases hzs.out with ⟨rfl, hf1⟩ | ⟨j, rfl, hf1⟩
            · have nlt : ¬ (n : Int) ≥ 500 := fun h => hna.out ⟨hf1, by have h1 := hll.out; have h2 := hck'.out.len; omega⟩
              have d0 := (x0.out.below hu1.out (Nat.le_refl _)).cell 0 rfl
              clear hf1
              go_wp2
              go_meet
              case rel => exact ⟨rfl, Below.refl _ _⟩
            · have zb : ((j : Int) < 0) = False := eq_false (by omega)
              clear hf1
              go_wp2
              go_meet
              case rel => exact ⟨rfl, Below.refl _ _⟩
          case rest =>
            obtain ⟨rfl, hc1⟩ := hcut
            obtain ⟨w18, rfl⟩ : ∃ u, u = wc := ⟨_, rfl⟩
            have hu2 := Lib.hid (below_step hc1.out hu1.out)
            have hzb : ∀ u, Hid (Below wo.heap.size wo u) → Hid (RowV 43 u w6.heap.size (Cel.cells (⟨⟨t, k, id⟩, aq, an, ac, bq, bn, bc⟩ : QV))) := fun u hu => hbx.out.below hu.out
            go_upto_region 21 with fail
            have hou2 := Lib.hid (below_step hc1.out hou1.out)
            have hbc : Hid (RowV 43 w18 w6.heap.size [.int .i64 t, .bool k, .int .u16 id, .slice aq an ac, .slice bq bn bc]) := hbx.out.below hou2.out
            obtain ⟨gb, hgb⟩ : ∃ gb, goesF D.hs x want = gb := ⟨_, rfl⟩
            have hgo := Lib.hid (rgo_any t k id aq an ac bq bn bc D.hs x want gb w18 (hzo'.out.hs.below hou2.out (Nat.le_refl _)) hgb)
            have hgb' := Lib.hid hgb
            have hbl : Hid (D.ws.length = bn) := hzo'.out.ws.len
            obtain ⟨gd, hgd⟩ : ∃ gd, (gb && (decide (own ≠ 0) || decide (bn = 0))) = gd := ⟨_, rfl⟩
            have hgd' := Lib.hid hgd
            clear hgb hgd
            go_cut [99] from 86 to 99 (fun v99 wx => v99 = .bool gd ∧ Hid (Below w18.heap.size w18 wx))
            case first =>
              cases gb with
              | false =>
                have hgf : Hid (gd = false) := by show _ = _; rw [← hgd'.out]; rfl
                go_wp2_with (first
                  | (with_reducible refine wpList_load_at rfl 43 (.tmp 15) rfl Tryz.underlying43 rfl s9 rfl hbc.out.boxed.all ?_)
                  | (go_at_call 80
                     refine hgo.out.mono ?_
                     rintro e u4 ⟨rfl, hb⟩
                     have hg1 := Lib.hid hb
                     clear hb hgo))
                go_meet
                case rel => exact ⟨by rw [hgf.out], hg1.out⟩
              | true =>
                by_cases hz : own = 0
                · have ob : (own != 0) = false := by simp [hz]
                  have hz' := Lib.hid hz
                  clear hz
                  by_cases hy : bn = 0
                  · have hyb : ((bn : Int) == 0) = true := by simp [hy]
                    have hgf : Hid (gd = true) := by show _ = _; rw [← hgd'.out]; simp [hy]
                    clear hy
                    go_wp2_with (first
                      | (with_reducible refine wpList_load_at rfl 43 (.tmp 15) rfl Tryz.underlying43 rfl s9 rfl hbc.out.boxed.all ?_)
                      | (go_at_call 80
                         refine hgo.out.mono ?_
                         rintro e u4 ⟨rfl, hb⟩
                         have hg1 := Lib.hid hb
                         have c4 := (hbc.out.below hb).boxed.cell 4 rfl
                         clear hb hgo))
                    go_meet
                    case rel => exact ⟨by rw [hgf.out], hg1.out⟩
                  · have hyb : ((bn : Int) == 0) = false := by rw [beq_eq_false_iff_ne]; omega
                    have hgf : Hid (gd = false) := by show _ = _; rw [← hgd'.out]; simp [hy, hz'.out]
                    clear hy
                    go_wp2_with (first
                      | (with_reducible refine wpList_load_at rfl 43 (.tmp 15) rfl Tryz.underlying43 rfl s9 rfl hbc.out.boxed.all ?_)
                      | (go_at_call 80
                         refine hgo.out.mono ?_
                         rintro e u4 ⟨rfl, hb⟩
                         have hg1 := Lib.hid hb
                         have c4 := (hbc.out.below hb).boxed.cell 4 rfl
                         clear hb hgo))
                    go_meet
                    case rel => exact ⟨by rw [hgf.out], hg1.out⟩
                · have ob : (own != 0) = true := by simpa using hz
                  have hgf : Hid (gd = true) := by show _ = _; rw [← hgd'.out]; simp [hz]
                  clear hz
                  go_wp2_with (first
                    | (with_reducible refine wpList_load_at rfl 43 (.tmp 15) rfl Tryz.underlying43 rfl s9 rfl hbc.out.boxed.all ?_)
                    | (go_at_call 80
                       refine hgo.out.mono ?_
                       rintro e u4 ⟨rfl, hb⟩
                       have hg1 := Lib.hid hb
                       clear hb hgo))
                  go_meet
                  case rel => exact ⟨by rw [hgf.out], hg1.out⟩
            case rest =>
              obtain ⟨rfl, hc2⟩ := hcut
              obtain ⟨w20, rfl⟩ : ∃ u, u = wc := ⟨_, rfl⟩
              have hou3 := Lib.hid (below_step hc2.out hou2.out)
              have hu3 := Lib.hid (below_step hou3.out hbo.out)
              have hb20 : Hid (RowV 43 w20 w6.heap.size [.int .i64 t, .bool k, .int .u16 id, .slice aq an ac, .slice bq bn bc]) := hbx.out.below hou3.out
              have hz20 := Lib.hid (hzo'.out.below hou3.out (Nat.le_refl _))
              have hh20 := Lib.hid (hh.out.below hu3.out (Nat.le_refl _))
              have h620 : Hid (w6.heap.size < w20.heap.size) := by show _ < _; have h1 := hb20.out.lt; exact h1
              have hW20 : Hid (W2.heap.size ≤ w20.heap.size) := by show _ ≤ _; have h1 := hr.out.fr.size; have h2 := hou3.out.size; omega
              have hlD := Lib.hid (rholds_any t k id aq an ac bq bn bc D.hs x want w20 hz20.out.hs hqs'.out (by have h1 := hz20.out.hs.len; have h2 := hwl.out.1; simp only at h1; omega))
              have hlW := Lib.hid (rwaits_any t k id aq an ac bq bn bc D.ws x want own w20 hz20.out.ws (by have h1 := hz20.out.ws.len; have h2 := hwl.out.2; simp only at h1; omega))
              go_upto_if 99 with fail
              go_cut [20] from 100 to 109 (fun v20 wx => ∃ (v2 : QV) (a2 : Int), v20 = .int .i64 a2 ∧ Hid ((if gd = true then (2 : Int) else 3) = a2) ∧ Hid (RowV 43 wx w6.heap.size [.int .i64 t, .bool k, .int .u16 id, .slice v2.hq v2.hn v2.hc, .slice v2.wq v2.wn v2.wc]) ∧ Hid (v2.On wx (if gd = true then graD ⟨x, want, own⟩ D else linD ⟨x, want, own⟩ D)) ∧ Hid (Fr (fun j => j = w6.heap.size) w20 wx) ∧ Hid (v2.res = ⟨t, k, id⟩) ∧ Hid ((∀ a, v2.hq = some a → W2.heap.size ≤ a.block) ∧ (∀ a, v2.wq = some a → W2.heap.size ≤ a.block)))
              case first =>
                cases gd with
                | true =>
                  go_wp2_with (first
                    | (with_reducible refine wpList_load_at rfl 43 (.tmp 15) rfl Tryz.underlying43 rfl s9 rfl hb20.out.boxed.all ?_)
                    | (go_at_call 81
                       refine hlD.out.mono ?_
                       rintro e u4 ⟨hq7, hn7, hc7, rfl, hown7, hb⟩
                       have ho7 := Lib.hid (And.intro hown7 hb)
                       have hx7 := Lib.hid (hb20.out.below hb)
                       have s7 := sizeQue (.int .i64 t) (.bool k) (.int .u16 id) (.slice hq7 hn7 hc7) (.slice bq bn bc)
                       have hone7 : ∀ y ∈ ([.int .i64 t, .bool k, .int .u16 id, .slice hq7 hn7 hc7, .slice bq bn bc] : List Value), y.oneCell' = true := fun y hy => by simp only [List.mem_cons, List.not_mem_nil, or_false] at hy; rcases hy with rfl | rfl | rfl | rfl | rfl <;> rfl
                       clear hown7 hb)
                    | ((with_reducible refine wpList_store_at rfl 43 (.tmp 15) (.tmp 103) rfl (o := 0) (vs := [.int .i64 t, .bool k, .int .u16 id, .slice hq7 hn7 hc7, .slice bq bn bc]) rfl rfl hx7.out s7 (Nat.le_refl _) hone7 ?_)
                       intro w8 h8 hg8
                       have hx8 : Hid (RowV 43 w8 w6.heap.size [.int .i64 t, .bool k, .int .u16 id, .slice hq7 hn7 hc7, .slice bq bn bc]) := h8
                       have hg8' := Lib.hid hg8
                       clear h8 hg8 hone7))
                  go_meet
                  case rel =>
                    refine ⟨⟨⟨t, k, id⟩, hq7, hn7, hc7, bq, bn, bc⟩, 2, rfl, Lib.hid rfl, hx8.out, ?_, ?_, rfl, ⟨fun a ha => by have h1 := (ho7.out.1.far a ha).1; have h2 := hW20.out; omega, hne.out.2⟩⟩
                    · have hw8 : SlOn w8 bq bn bc D.ws := (hz20.out.ws.below ho7.out.2 (Nat.le_refl _)).gr hg8'.out (fun a ha e => by have h1 := hne.out.2 a ha; have h2 := hGq.out.2; omega)
                      refine ⟨?_, ?_, ?_, ?_⟩
                      · exact hz20.out.res
                      · exact hz20.out.ok
                      · exact (ho7.out.1.gr hg8'.out h620.out).reads
                      · exact hw8
                    · exact (Fr.of_below ho7.out.2).trans (Fr.of_grown hg8'.out (fun j e => by cases e; rfl))
                | false =>
                  go_wp2_with (first
                    | (with_reducible refine wpList_load_at rfl 43 (.tmp 15) rfl Tryz.underlying43 rfl s9 rfl hb20.out.boxed.all ?_)
                    | (go_at_call 82
                       refine hlW.out.mono ?_
                       rintro e u4 ⟨hq7, hn7, hc7, rfl, hown7, hb⟩
                       have ho7 := Lib.hid (And.intro hown7 hb)
                       have hx7 := Lib.hid (hb20.out.below hb)
                       have s7 := sizeQue (.int .i64 t) (.bool k) (.int .u16 id) (.slice aq an ac) (.slice hq7 hn7 hc7)
                       have hone7 : ∀ y ∈ ([.int .i64 t, .bool k, .int .u16 id, .slice aq an ac, .slice hq7 hn7 hc7] : List Value), y.oneCell' = true := fun y hy => by simp only [List.mem_cons, List.not_mem_nil, or_false] at hy; rcases hy with rfl | rfl | rfl | rfl | rfl <;> rfl
                       clear hown7 hb)
                    | ((with_reducible refine wpList_store_at rfl 43 (.tmp 15) (.tmp 109) rfl (o := 0) (vs := [.int .i64 t, .bool k, .int .u16 id, .slice aq an ac, .slice hq7 hn7 hc7]) rfl rfl hx7.out s7 (Nat.le_refl _) hone7 ?_)
                       intro w8 h8 hg8
                       have hx8 : Hid (RowV 43 w8 w6.heap.size [.int .i64 t, .bool k, .int .u16 id, .slice aq an ac, .slice hq7 hn7 hc7]) := h8
                       have hg8' := Lib.hid hg8
                       clear h8 hg8 hone7))
                  go_meet
                  case rel =>
                    refine ⟨⟨⟨t, k, id⟩, aq, an, ac, hq7, hn7, hc7⟩, 3, rfl, Lib.hid rfl, hx8.out, ?_, ?_, rfl, ⟨hne.out.1, fun a ha => by have h1 := (ho7.out.1.far a ha).1; have h2 := hW20.out; omega⟩⟩
                    · have hw8 : SlOn w8 aq an ac D.hs := (hz20.out.hs.below ho7.out.2 (Nat.le_refl _)).gr hg8'.out (fun a ha e => by have h1 := hne.out.1 a ha; have h2 := hGq.out.2; omega)
                      refine ⟨?_, ?_, ?_, ?_⟩
                      · exact hz20.out.res
                      · exact hz20.out.ok
                      · exact hw8
                      · exact (ho7.out.1.gr hg8'.out h620.out).reads
                    · exact (Fr.of_below ho7.out.2).trans (Fr.of_grown hg8'.out (fun j e => by cases e; rfl))
              case rest =>
                obtain ⟨⟨⟨et, ek, ei⟩, eq_, en, ec, fq, fn, fc⟩, a2, rfl, hya, hy1, hy2, hy3, hy4, hy5⟩ := hcut
                obtain ⟨w21, rfl⟩ : ∃ u, u = wc := ⟨_, rfl⟩
                obtain rfl : t = et := by have h4 : (⟨et, ek, ei⟩ : ResD) = ⟨t, k, id⟩ := hy4.out; cases h4; rfl
                obtain rfl : k = ek := by have h4 : (⟨t, ek, ei⟩ : ResD) = ⟨t, k, id⟩ := hy4.out; cases h4; rfl
                obtain rfl : id = ei := by have h4 : (⟨t, k, ei⟩ : ResD) = ⟨t, k, id⟩ := hy4.out; cases h4; rfl
                have hu21 : Hid (Below W.heap.size W w21) := hu3.out.trans (hy3.out.below hu3.out.size (fun j e => by have e2 : j = w6.heap.size := e; have := hGq.out.1; omega))
                have hh21 := Lib.hid (hh.out.below hu21.out (Nat.le_refl _))
                have x021 := Lib.hid (x0.out.below hu21.out (Nat.le_refl _))
                have x121 := Lib.hid (x1.out.below hu21.out (Nat.le_refl _))
                have hr221 := Lib.hid (hr2.out.below hu21.out)
                obtain ⟨W3, hW3⟩ : ∃ u, w21.alloc (.cells #[.slice none 0 0] 24) = u := ⟨_, rfl⟩
                have hb3' := Lib.hid (one_box (xs := [.slice none 0 0]) hW3)
                have hr3 : Hid (RowV 24 W3 w21.heap.size [.slice none 0 0]) := RowV.made' (cs := [.slice none 0 0]) hW3
                have hG21 : Hid (w21.heap.size < W3.heap.size) := by show _ < _; have := hb3'.out.2.2; omega
                obtain ⟨D2, hD2⟩ : ∃ D2, (if gd = true then graD ⟨x, want, own⟩ D else linD ⟨x, want, own⟩ D) = D2 := ⟨_, rfl⟩
                rw [hD2] at hy2
                have hD2' := Lib.hid hD2
                obtain ⟨Z, hZ⟩ : ∃ Z, V.zip L = Z := ⟨_, rfl⟩
                have hVl : V.length = n := hh.out.sl.len
                have hZl : Hid (Z.length = n) := by show _ = _; rw [← hZ, List.length_zip, hVl, hll.out, Nat.min_self]
                have hZs : Hid (Z.map (·.2) = L) := by show _ = _; rw [← hZ]; exact zip_snd (by rw [hVl, hll.out])
                have hZon : Hid (∀ a ∈ Z, a.1.On w0 a.2) := by
                  show ∀ a ∈ Z, _
                  intro a ha
                  rw [← hZ] at ha
                  obtain ⟨i, hi⟩ := List.mem_iff_getElem?.1 ha
                  rw [List.getElem?_zip_eq_some] at hi
                  exact hon0.out.on i _ _ hi.1 hi.2
                have hZ' := Lib.hid hZ
                obtain ⟨p, hp⟩ : ∃ p : QV × QueD, (⟨⟨t, k, id⟩, eq_, en, ec, fq, fn, fc⟩, D2) = p := ⟨_, rfl⟩
                have hp1 : Hid (p.1 = ⟨⟨t, k, id⟩, eq_, en, ec, fq, fn, fc⟩) := by show _ = _; rw [← hp]
                have hp2 : Hid (p.2 = D2) := by show _ = _; rw [← hp]
                have c021 := (x021.out.below hb3'.out.1 (Nat.le_refl _)).cell 0 rfl
                have hst3 : Hid (AkR W3 w21.heap.size [] 0 none 0 W3) := ⟨rfl, OwnS.nil _ _ _, hr3.out, Fr.refl _ _⟩
                have s9e := sizeQue (.int .i64 t) (.bool k) (.int .u16 id) (.slice eq_ en ec) (.slice fq fn fc)
                clear hD2 hZ hVl hp
                go_wp2
                clear hW3 c021
                go_loopw [22, 113] (fun v22 v113 wr => ∃ (i : Nat) (m : Nat) (lq : Option Addr) (lc : Nat), i ≤ n ∧ v113 = .int .i64 i ∧ v22 = .bool (qFold Z ⟨t, k, id⟩ p i).2 ∧ Hid (AkR W3 w21.heap.size (qFold Z ⟨t, k, id⟩ p i).1 m lq lc wr)) (fun v22 v113 _ => n - (intOf v113).toNat)
                case atStart => exact ⟨0, 0, none, 0, Nat.zero_le _, rfl, rfl, hst3⟩
                case round =>
                  obtain ⟨i, mm, lq, lc, hi, rfl, rfl, hr⟩ := hrel
                  obtain ⟨wr2, rfl⟩ : ∃ u, u = wr := ⟨_, rfl⟩
                  obtain ⟨st, hst⟩ : ∃ st, qFold Z ⟨t, k, id⟩ p i = st := ⟨_, rfl⟩
                  have hlen : mm ≤ 100001 := by have h1 := qFold_len Z ⟨t, k, id⟩ p i; have h2 := hr.out.len; omega
                  rw [hst] at hr ⊢
                  obtain ⟨l, laid⟩ := st
                  simp only at hr ⊢
                  have hst' := Lib.hid hst
                  clear hst
                  have hb3r : Hid (Below w21.heap.size w21 wr2) := hb3'.out.1.trans (hr.out.fr.below (Nat.le_of_lt hG21.out) (fun j e => by have e2 : j = w21.heap.size := e; omega))
                  have hbwr := Lib.hid (below_step hb3r.out hu21.out)
                  by_cases hlt : i < n
                  · obtain ⟨A, ⟨⟨rt, rk, ri⟩, hq, hn, hc, wq, wn, wd⟩, d, hqA, hV, hd, hond, hcA⟩ := (hh21.out.below hb3r.out (Nat.le_refl _)).at hlt
                    subst hqA
                    have hcell : Hid (∀ j' v, ([.int .i64 rt, .bool rk, .int .u16 ri, .slice hq hn hc, .slice wq wn wd] : List Value)[j']? = some v → wr2.cell? ((A.add (i * 5)).add j') = some v) := fun j' v hj => hcA j' v hj
                    have sq := sizeQue (.int .i64 rt) (.bool rk) (.int .u16 ri) (.slice hq hn hc) (.slice wq wn wd)
                    have i0 : (0 : Int) ≤ i := by omega
                    have i1 : (i : Int) < n := by omega
                    obtain ⟨WA, hWA⟩ : ∃ W', wr2.alloc (.cells #[.int .i64 rt, .bool rk, .int .u16 ri, .slice hq hn hc, .slice wq wn wd] 43) = W' := ⟨_, rfl⟩
                    have hbA := Lib.hid (one_box (xs := [.int .i64 rt, .bool rk, .int .u16 ri, .slice hq hn hc, .slice wq wn wd]) hWA)
                    have hzi : Z[i]? = some (⟨⟨rt, rk, ri⟩, hq, hn, hc, wq, wn, wd⟩, d) := by rw [← hZ'.out]; exact zip_at hV hd
                    have hnx := Lib.hid (qFold_next (r := ⟨t, k, id⟩) (p := p) hzi)
                    rw [hst'.out] at hnx
                    have hdr : Hid (d.res = ⟨rt, rk, ri⟩) := hond.res.symm
                    have hdo : (⟨rt, rk, ri⟩ : ResD).ok := by rw [← hdr.out]; exact hond.ok
                    have hfr := (hck'.out.fit d (List.mem_of_getElem? hd)).res
                    rw [hdr.out] at hfr
                    have rt1 := resB_t2 hfr
                    have rt2 := resB_t2 hrb.out
                    simp only at rt1 rt2
                    obtain ⟨o1, ho1'⟩ : ∃ o1, ordI ⟨rt, rk, ri⟩ = o1 := ⟨_, rfl⟩
                    obtain ⟨o2, ho2'⟩ : ∃ o2, ordI ⟨t, k, id⟩ = o2 := ⟨_, rfl⟩
                    have ho1 := Lib.hid (fun u => rorder_any rt rk ri u o1 ho1' rt1.1 rt1.2 hdo.1 hdo.2)
                    have ho2 := Lib.hid (fun u => rorder_any t k id u o2 ho2' rt2.1 rt2.2 hg.out.1 hg.out.2)
                    have hcmp : Hid (o1 < o2 ↔ cmpR d.res ⟨t, k, id⟩ < 0) := by rw [← ho1', ← ho2', hdr.out]; exact ordI_lt hdo hg.out
                    have sr := sizeRes (.int .i64 rt) (.bool rk) (.int .u16 ri)
                    have hneq := fun u => neqRes2 u rt rk ri t k id
                    have hD9 : Hid (∀ u, Below WA.heap.size WA u → u.cell? ⟨wr2.heap.size, 0, none⟩ = some (.int .i64 rt) ∧ u.cell? ⟨wr2.heap.size, 1, none⟩ = some (.bool rk) ∧ u.cell? ⟨wr2.heap.size, 2, none⟩ = some (.int .u16 ri) ∧ u.cell? ⟨W0.heap.size, 0, none⟩ = some (.int .i64 t) ∧ u.cell? ⟨W0.heap.size, 1, none⟩ = some (.bool k) ∧ u.cell? ⟨W0.heap.size, 2, none⟩ = some (.int .u16 id)) := fun u hu => by
                      have h1 := hbA.out.2.1.below hu (Nat.le_refl _)
                      have h2 := x121.out.below (below_step hu (below_step hbA.out.1 hb3r.out)) (Nat.le_refl _)
                      exact ⟨h1.cell 0 rfl, h1.cell 1 rfl, h1.cell 2 rfl, h2.cell 0 rfl, h2.cell 1 rfl, h2.cell 2 rfl⟩
                    have hWz : Hid (W0.heap.size < w21.heap.size ∧ w21.heap.size < wr2.heap.size) := by have h1 := hs0.out; have h2 := hu21.out.size; have h3 := hr.out.fr.size; have h4 := hG21.out; exact ⟨by omega, by omega⟩
                    clear hcA hV hd hond hzi hdo hfr rt1 rt2 ho1' ho2'
                    go_wp2_with (first
                      | (with_reducible refine wpList_load_at rfl 43 (.tmp 115) rfl Tryz.underlying43 rfl sq rfl hcell.out ?_))
                    clear hWA hcell
                    refine wp_region_held (S := fun u => Below WA.heap.size WA u) (by kernel_rfl) ?_
                    change wpAnyH _ _ _ _ _ _ _ _ (World.drew WA)
                    have hS0 : Below WA.heap.size WA WA.drew := below_drew _
                    generalize World.drew WA = u0 at hS0 ⊢
                    cases laid with
                    | false =>
                      by_cases hge : o1 ≥ o2
                      · have hnl : ¬ cmpR d.res ⟨t, k, id⟩ < 0 := fun h => by have h1 := hcmp.out.2 h; omega
                        have hnl' := Lib.hid hnl
                        clear hnl
                        refine held_tk (i := 0) (dst := some 117) (v := .bool false) rfl rfl (y_move (.tmp 22) rfl rfl rfl) hS0 ?_
                        go_frame
                        refine held_tk (i := 1) (dst := some 118) (v := .bool true) rfl rfl (.inl ⟨rfl, fun u hu => by obtain ⟨e0, e1, e2, r0, r1, r2⟩ := hD9.out u hu; go_simp⟩) hS0 ?_
                        go_frame
                        refine held_tk (i := 2) (dst := some 119) (v := .bool true) rfl rfl (y_move (.tmp 118) rfl rfl rfl) hS0 ?_
                        go_frame
                        refine held_tk (i := 3) (dst := some 120) (v := .pointer (some ⟨wr2.heap.size, 0, none⟩)) rfl rfl (.inl ⟨rfl, fun u hu => by obtain ⟨e0, e1, e2, r0, r1, r2⟩ := hD9.out u hu; go_simp⟩) hS0 ?_
                        go_frame
                        refine held_tk (i := 4) (dst := some 121) (v := .agg #[.int .i64 rt, .bool rk, .int .u16 ri]) rfl rfl (.inl ⟨rfl, fun u hu => by obtain ⟨e0, e1, e2, r0, r1, r2⟩ := hD9.out u hu; go_simp⟩) hS0 ?_
                        go_frame
                        refine held_tk (i := 6) (dst := some 123) (v := .agg #[.int .i64 t, .bool k, .int .u16 id]) rfl rfl (.inl ⟨rfl, fun u hu => by obtain ⟨e0, e1, e2, r0, r1, r2⟩ := hD9.out u hu; go_simp⟩) hS0 ?_
                        go_frame
                        refine held_call (i := 5) (dst := some 122) rfl rfl (by kernel_rfl) rfl (by go_simp) (ho1.out _) ?_
                        rintro e u1 ⟨rfl, hb1⟩
                        have hS1 := below_step hb1 hS0
                        refine ⟨_, rfl, hS1, ?_⟩
                        go_frame
                        refine held_call (i := 7) (dst := some 124) rfl rfl (by kernel_rfl) rfl (by go_simp) (ho2.out _) ?_
                        rintro e u2 ⟨rfl, hb2⟩
                        have hS2 := below_step hb2 hS1
                        refine ⟨_, rfl, hS2, ?_⟩
                        go_frame
                        refine held_tk (i := 8) (dst := some 125) (v := .bool true) rfl rfl (.inl ⟨rfl, fun u hu => by obtain ⟨e0, e1, e2, r0, r1, r2⟩ := hD9.out u hu; go_simp⟩) hS2 ?_
                        go_frame
                        refine held_tk (i := 9) (dst := some 126) (v := .bool true) rfl rfl (.inl ⟨rfl, fun u hu => by obtain ⟨e0, e1, e2, r0, r1, r2⟩ := hD9.out u hu; go_simp⟩) hS2 ?_
                        go_frame
                        refine wpAnyH_done (by kernel_rfl) ?_ _
                        have hbX := Lib.hid hS2
                        have akX := Lib.hid (hr.out.mono (below_step hbX.out hbA.out.1))
                        have elX := Lib.hid (hbA.out.2.1.below hbX.out (Nat.le_refl _))
                        have hw21X := Lib.hid (below_step hbX.out (below_step hbA.out.1 hb3r.out))
                        have rsX := Lib.hid (x121.out.below hw21X.out (Nat.le_refl _))
                        have rrX : Hid (∀ j v, ([.int .i64 rt, .bool rk, .int .u16 ri] : List Value)[j]? = some v → u2.cell? ((⟨wr2.heap.size, 0, none⟩ : Addr).add j) = some v) := fun j v hj => elX.out.part (o := 0) (ys := [.int .i64 rt, .bool rk, .int .u16 ri]) (fun j v hj => by match j, hj with | 0, h => exact h | 1, h => exact h | 2, h => exact h | j + 3, h => simp at h) j v hj
                        have qbX := Lib.hid (hy1.out.below hw21X.out)
                        have kX : u2.cell? ⟨w21.heap.size, 0, none⟩ = some (.slice lq mm lc) := akX.out.box.cell 0
                        have hlqb : Hid (∀ b, lq = some b → W3.heap.size ≤ b.block ∧ b.block < wr2.heap.size) := fun b hb => hr.out.row.far b hb
                        by_cases hre : (⟨rt, rk, ri⟩ : ResD) = ⟨t, k, id⟩
                        · rw [decide_eq_true hre] at hneq
                          have hsx := hnx.out
                          unfold qStep at hsx
                          simp only [hdr.out, hre, if_true] at hsx
                          have hsx' := Lib.hid hsx
                          clear hsx hre
                          obtain ⟨WL1, hWL1⟩ : ∃ u', u2.alloc (.cells #[.int .i64 t, .bool k, .int .u16 id, .slice eq_ en ec, .slice fq fn fc] 43) = u' := ⟨_, rfl⟩
                          have hbL1 := Lib.hid (one_box (xs := [.int .i64 t, .bool k, .int .u16 id, .slice eq_ en ec, .slice fq fn fc]) hWL1)
                          have lit1 := Lib.hid (OwnS.single (RowV.made' (cs := Cel.cells (⟨⟨t, k, id⟩, eq_, en, ec, fq, fn, fc⟩ : QV)) hWL1)).reads
                          have own1 := Lib.hid ((akX).out.row.below hbL1.out.1)
                          have hz1 : Hid (W3.heap.size ≤ WL1.heap.size) := by have h1 := (akX).out.fr.size; have h2 := hbL1.out.2.2; show _ ≤ _; omega
                          go_wp2_with (first
                            | (with_reducible refine wpList_load_at rfl 43 (.tmp 15) rfl Tryz.underlying43 rfl s9e rfl qbX.out.boxed.all ?_)
                            | (at_builtin
                               refine wpList_append_l Tryz.underlying22 infoQue rfl rfl (.tmp 128) (.tmp 130) rfl rfl rfl own1.out lit1.out (by omega) (by omega) hz1.out ?_
                               intro q7 c7 u7 row7 hg7 hq7
                               have x7 := Lib.hid (((akX).out.box.below hbL1.out.1).block (hg7.block _ ((akX).out.box.below hbL1.out.1).lt ((akX).out.far hG21.out)))
                               obtain ⟨s7, hs7⟩ : ∃ u', u7.setCell ⟨w21.heap.size, 0, none⟩ (.slice q7 (mm + 1) c7) = u' := ⟨_, rfl⟩
                               have ak7 := Lib.hid (AkR.next (a := p) (akX).out hG21.out hbL1.out.1 (by rw [hp1.out]; exact row7) hg7 hs7)
                               have cc7 : u7.cell? ⟨w21.heap.size, 0, none⟩ = some (.slice lq mm lc) := x7.out.cell 0
                               have ff7 : u7.frozen? ⟨w21.heap.size, 0, none⟩ = false := x7.out.free 0
                               have gg7 : Hid (Fr (fun j => j = w21.heap.size ∨ some j = lq.map (·.block)) WL1 s7) := by
                                 have h1 : Fr (fun j => j = w21.heap.size) u7 s7 := by rw [← hs7]; exact Fr.of_set _ _ _ rfl
                                 exact (Fr.of_grown hg7 (fun j e => .inr e.symm)).trans (h1.mono (fun j _ e => .inl e))
                               have el7 := Lib.hid (boxed_fr (elX.out.below hbL1.out.1 (Nat.le_refl _)) gg7.out (nots hlqb.out hWz.out.2))
                               have rs7 := Lib.hid (boxed_fr (rsX.out.below hbL1.out.1 (Nat.le_refl _)) gg7.out (nots2 hlqb.out hWz.out.1 hG21.out))
                               have rr7 : Hid (∀ j v, ([.int .i64 rt, .bool rk, .int .u16 ri] : List Value)[j]? = some v → s7.cell? ((⟨wr2.heap.size, 0, none⟩ : Addr).add j) = some v) := fun j v hj => el7.out.part (o := 0) (ys := [.int .i64 rt, .bool rk, .int .u16 ri]) (fun j v hj => by match j, hj with | 0, h => exact h | 1, h => exact h | 2, h => exact h | j + 3, h => simp at h) j v hj
                               clear kX
                               clear row7 hg7 hq7 x7)
                            | (with_reducible refine wpList_load_at rfl 30 (.tmp 133) rfl Tryz.underlying30 rfl sr rfl rr7.out ?_)
                            | (with_reducible refine wpList_load_at rfl 30 (.tmp 6) rfl Tryz.underlying30 rfl s3 rfl rs7.out.all ?_))
                          go_roundw
                          case rel => exact ⟨i + 1, mm + 1, q7, c7, by omega, by go_num, by rw [hsx'.out], by rw [hsx'.out]; exact ak7.out⟩
                          case measure => simp [intOf]; omega
                        · rw [decide_eq_false hre] at hneq
                          have hsx := hnx.out
                          unfold qStep at hsx
                          simp only [hdr.out, hre, if_false] at hsx
                          rw [if_pos ⟨trivial, by have h1 := hnl'.out; rw [hdr.out] at h1; exact h1⟩] at hsx
                          have hsx' := Lib.hid hsx
                          clear hsx hre
                          obtain ⟨WL1, hWL1⟩ : ∃ u', u2.alloc (.cells #[.int .i64 t, .bool k, .int .u16 id, .slice eq_ en ec, .slice fq fn fc] 43) = u' := ⟨_, rfl⟩
                          have hbL1 := Lib.hid (one_box (xs := [.int .i64 t, .bool k, .int .u16 id, .slice eq_ en ec, .slice fq fn fc]) hWL1)
                          have lit1 := Lib.hid (OwnS.single (RowV.made' (cs := Cel.cells (⟨⟨t, k, id⟩, eq_, en, ec, fq, fn, fc⟩ : QV)) hWL1)).reads
                          have own1 := Lib.hid ((akX).out.row.below hbL1.out.1)
                          have hz1 : Hid (W3.heap.size ≤ WL1.heap.size) := by have h1 := (akX).out.fr.size; have h2 := hbL1.out.2.2; show _ ≤ _; omega
                          go_wp2_with (first
                            | (with_reducible refine wpList_load_at rfl 43 (.tmp 15) rfl Tryz.underlying43 rfl s9e rfl qbX.out.boxed.all ?_)
                            | (at_builtin
                               refine wpList_append_l Tryz.underlying22 infoQue rfl rfl (.tmp 128) (.tmp 130) rfl rfl rfl own1.out lit1.out (by omega) (by omega) hz1.out ?_
                               intro q7 c7 u7 row7 hg7 hq7
                               have x7 := Lib.hid (((akX).out.box.below hbL1.out.1).block (hg7.block _ ((akX).out.box.below hbL1.out.1).lt ((akX).out.far hG21.out)))
                               obtain ⟨s7, hs7⟩ : ∃ u', u7.setCell ⟨w21.heap.size, 0, none⟩ (.slice q7 (mm + 1) c7) = u' := ⟨_, rfl⟩
                               have ak7 := Lib.hid (AkR.next (a := p) (akX).out hG21.out hbL1.out.1 (by rw [hp1.out]; exact row7) hg7 hs7)
                               have cc7 : u7.cell? ⟨w21.heap.size, 0, none⟩ = some (.slice lq mm lc) := x7.out.cell 0
                               have ff7 : u7.frozen? ⟨w21.heap.size, 0, none⟩ = false := x7.out.free 0
                               have gg7 : Hid (Fr (fun j => j = w21.heap.size ∨ some j = lq.map (·.block)) WL1 s7) := by
                                 have h1 : Fr (fun j => j = w21.heap.size) u7 s7 := by rw [← hs7]; exact Fr.of_set _ _ _ rfl
                                 exact (Fr.of_grown hg7 (fun j e => .inr e.symm)).trans (h1.mono (fun j _ e => .inl e))
                               have el7 := Lib.hid (boxed_fr (elX.out.below hbL1.out.1 (Nat.le_refl _)) gg7.out (nots hlqb.out hWz.out.2))
                               have rs7 := Lib.hid (boxed_fr (rsX.out.below hbL1.out.1 (Nat.le_refl _)) gg7.out (nots2 hlqb.out hWz.out.1 hG21.out))
                               have rr7 : Hid (∀ j v, ([.int .i64 rt, .bool rk, .int .u16 ri] : List Value)[j]? = some v → s7.cell? ((⟨wr2.heap.size, 0, none⟩ : Addr).add j) = some v) := fun j v hj => el7.out.part (o := 0) (ys := [.int .i64 rt, .bool rk, .int .u16 ri]) (fun j v hj => by match j, hj with | 0, h => exact h | 1, h => exact h | 2, h => exact h | j + 3, h => simp at h) j v hj
                               clear kX
                               have k7 : s7.cell? ⟨w21.heap.size, 0, none⟩ = some (.slice q7 (mm + 1) c7) := ak7.out.box.cell 0
                               obtain ⟨WL2, hWL2⟩ : ∃ u', s7.alloc (.cells #[.int .i64 rt, .bool rk, .int .u16 ri, .slice hq hn hc, .slice wq wn wd] 43) = u' := ⟨_, rfl⟩
                               have hbL2 := Lib.hid (one_box (xs := [.int .i64 rt, .bool rk, .int .u16 ri, .slice hq hn hc, .slice wq wn wd]) hWL2)
                               have lit2 := Lib.hid (OwnS.single (RowV.made' (cs := Cel.cells (⟨⟨rt, rk, ri⟩, hq, hn, hc, wq, wn, wd⟩ : QV)) hWL2)).reads
                               have own2 := Lib.hid ((ak7).out.row.below hbL2.out.1)
                               have hz2 : Hid (W3.heap.size ≤ WL2.heap.size) := by have h1 := (ak7).out.fr.size; have h2 := hbL2.out.2.2; show _ ≤ _; omega
                               clear row7 hg7 hq7 x7)
                            | (with_reducible refine wpList_load_at rfl 30 (.tmp 133) rfl Tryz.underlying30 rfl sr rfl rr7.out ?_)
                            | (with_reducible refine wpList_load_at rfl 30 (.tmp 6) rfl Tryz.underlying30 rfl s3 rfl rs7.out.all ?_)
                            | (with_reducible refine wpList_load_at rfl 43 (.tmp 24) rfl Tryz.underlying43 rfl sq rfl el7.out.all ?_)
                            | (at_builtin
                               refine wpList_append_l Tryz.underlying22 infoQue rfl rfl (.tmp 138) (.tmp 140) rfl rfl rfl own2.out lit2.out (by omega) (by omega) hz2.out ?_
                               intro q8 c8 u8 row8 hg8 hq8
                               have x8 := Lib.hid (((ak7).out.box.below hbL2.out.1).block (hg8.block _ ((ak7).out.box.below hbL2.out.1).lt ((ak7).out.far hG21.out)))
                               obtain ⟨s8, hs8⟩ : ∃ u', u8.setCell ⟨w21.heap.size, 0, none⟩ (.slice q8 ((mm + 1) + 1) c8) = u' := ⟨_, rfl⟩
                               have ak8 := Lib.hid (AkR.next (a := (⟨⟨rt, rk, ri⟩, hq, hn, hc, wq, wn, wd⟩, d)) (ak7).out hG21.out hbL2.out.1 row8 hg8 hs8)
                               have cc8 : u8.cell? ⟨w21.heap.size, 0, none⟩ = some (.slice q7 (mm + 1) c7) := x8.out.cell 0
                               have ff8 : u8.frozen? ⟨w21.heap.size, 0, none⟩ = false := x8.out.free 0
                               have gg8 : Hid (Fr (fun j => j = w21.heap.size ∨ some j = q7.map (·.block)) WL2 s8) := by
                                 have h1 : Fr (fun j => j = w21.heap.size) u8 s8 := by rw [← hs8]; exact Fr.of_set _ _ _ rfl
                                 exact (Fr.of_grown hg8 (fun j e => .inr e.symm)).trans (h1.mono (fun j _ e => .inl e))
                               clear row8 hg8 hq8 x8))
                          go_roundw
                          case rel => exact ⟨i + 1, mm + 1 + 1, q8, c8, by omega, by go_num, by rw [hsx'.out], by rw [hsx'.out]; exact ak8.out⟩
                          case measure => simp [intOf]; omega
                      · have hlt2 : cmpR d.res ⟨t, k, id⟩ < 0 := hcmp.out.1 (by omega)
                        have hre : (⟨rt, rk, ri⟩ : ResD) ≠ ⟨t, k, id⟩ := fun e => by rw [hdr.out, e] at hlt2; exact cmpR_no _ hlt2
                        have hgl : ¬ o2 ≤ o1 := hge
                        have hsx := hnx.out
                        unfold qStep at hsx
                        simp only [hdr.out, hre, if_false] at hsx
                        rw [if_neg (fun h => h.2 (by have h1 := hlt2; rw [hdr.out] at h1; exact h1))] at hsx
                        have hsx' := Lib.hid hsx
                        rw [decide_eq_false hre] at hneq
                        clear hsx hre hlt2
                        refine held_tk (i := 0) (dst := some 117) (v := .bool false) rfl rfl (y_move (.tmp 22) rfl rfl rfl) hS0 ?_
                        go_frame
                        refine held_tk (i := 1) (dst := some 118) (v := .bool true) rfl rfl (.inl ⟨rfl, fun u hu => by obtain ⟨e0, e1, e2, r0, r1, r2⟩ := hD9.out u hu; go_simp⟩) hS0 ?_
                        go_frame
                        refine held_tk (i := 2) (dst := some 119) (v := .bool true) rfl rfl (y_move (.tmp 118) rfl rfl rfl) hS0 ?_
                        go_frame
                        refine held_tk (i := 3) (dst := some 120) (v := .pointer (some ⟨wr2.heap.size, 0, none⟩)) rfl rfl (.inl ⟨rfl, fun u hu => by obtain ⟨e0, e1, e2, r0, r1, r2⟩ := hD9.out u hu; go_simp⟩) hS0 ?_
                        go_frame
                        refine held_tk (i := 4) (dst := some 121) (v := .agg #[.int .i64 rt, .bool rk, .int .u16 ri]) rfl rfl (.inl ⟨rfl, fun u hu => by obtain ⟨e0, e1, e2, r0, r1, r2⟩ := hD9.out u hu; go_simp⟩) hS0 ?_
                        go_frame
                        refine held_tk (i := 6) (dst := some 123) (v := .agg #[.int .i64 t, .bool k, .int .u16 id]) rfl rfl (.inl ⟨rfl, fun u hu => by obtain ⟨e0, e1, e2, r0, r1, r2⟩ := hD9.out u hu; go_simp⟩) hS0 ?_
                        go_frame
                        refine held_call (i := 5) (dst := some 122) rfl rfl (by kernel_rfl) rfl (by go_simp) (ho1.out _) ?_
                        rintro e u1 ⟨rfl, hb1⟩
                        have hS1 := below_step hb1 hS0
                        refine ⟨_, rfl, hS1, ?_⟩
                        go_frame
                        refine held_call (i := 7) (dst := some 124) rfl rfl (by kernel_rfl) rfl (by go_simp) (ho2.out _) ?_
                        rintro e u2 ⟨rfl, hb2⟩
                        have hS2 := below_step hb2 hS1
                        refine ⟨_, rfl, hS2, ?_⟩
                        go_frame
                        refine held_tk (i := 8) (dst := some 125) (v := .bool false) rfl rfl (.inl ⟨rfl, fun u hu => by obtain ⟨e0, e1, e2, r0, r1, r2⟩ := hD9.out u hu; go_simp⟩) hS2 ?_
                        go_frame
                        refine held_tk (i := 9) (dst := some 126) (v := .bool false) rfl rfl (.inl ⟨rfl, fun u hu => by obtain ⟨e0, e1, e2, r0, r1, r2⟩ := hD9.out u hu; go_simp⟩) hS2 ?_
                        go_frame
                        refine wpAnyH_done (by kernel_rfl) ?_ _
                        have hbX := Lib.hid hS2
                        have akX := Lib.hid (hr.out.mono (below_step hbX.out hbA.out.1))
                        have elX := Lib.hid (hbA.out.2.1.below hbX.out (Nat.le_refl _))
                        have hw21X := Lib.hid (below_step hbX.out (below_step hbA.out.1 hb3r.out))
                        have rsX := Lib.hid (x121.out.below hw21X.out (Nat.le_refl _))
                        have rrX : Hid (∀ j v, ([.int .i64 rt, .bool rk, .int .u16 ri] : List Value)[j]? = some v → u2.cell? ((⟨wr2.heap.size, 0, none⟩ : Addr).add j) = some v) := fun j v hj => elX.out.part (o := 0) (ys := [.int .i64 rt, .bool rk, .int .u16 ri]) (fun j v hj => by match j, hj with | 0, h => exact h | 1, h => exact h | 2, h => exact h | j + 3, h => simp at h) j v hj
                        have qbX := Lib.hid (hy1.out.below hw21X.out)
                        have kX : u2.cell? ⟨w21.heap.size, 0, none⟩ = some (.slice lq mm lc) := akX.out.box.cell 0
                        have hlqb : Hid (∀ b, lq = some b → W3.heap.size ≤ b.block ∧ b.block < wr2.heap.size) := fun b hb => hr.out.row.far b hb
                        obtain ⟨WL1, hWL1⟩ : ∃ u', u2.alloc (.cells #[.int .i64 rt, .bool rk, .int .u16 ri, .slice hq hn hc, .slice wq wn wd] 43) = u' := ⟨_, rfl⟩
                        have hbL1 := Lib.hid (one_box (xs := [.int .i64 rt, .bool rk, .int .u16 ri, .slice hq hn hc, .slice wq wn wd]) hWL1)
                        have lit1 := Lib.hid (OwnS.single (RowV.made' (cs := Cel.cells (⟨⟨rt, rk, ri⟩, hq, hn, hc, wq, wn, wd⟩ : QV)) hWL1)).reads
                        have own1 := Lib.hid ((akX).out.row.below hbL1.out.1)
                        have hz1 : Hid (W3.heap.size ≤ WL1.heap.size) := by have h1 := (akX).out.fr.size; have h2 := hbL1.out.2.2; show _ ≤ _; omega
                        go_wp2_with (first
                          | (with_reducible refine wpList_load_at rfl 30 (.tmp 133) rfl Tryz.underlying30 rfl sr rfl rrX.out ?_)
                          | (with_reducible refine wpList_load_at rfl 30 (.tmp 6) rfl Tryz.underlying30 rfl s3 rfl rsX.out.all ?_)
                          | (with_reducible refine wpList_load_at rfl 43 (.tmp 24) rfl Tryz.underlying43 rfl sq rfl elX.out.all ?_)
                          | (at_builtin
                             refine wpList_append_l Tryz.underlying22 infoQue rfl rfl (.tmp 138) (.tmp 140) rfl rfl rfl own1.out lit1.out (by omega) (by omega) hz1.out ?_
                             intro q7 c7 u7 row7 hg7 hq7
                             have x7 := Lib.hid (((akX).out.box.below hbL1.out.1).block (hg7.block _ ((akX).out.box.below hbL1.out.1).lt ((akX).out.far hG21.out)))
                             obtain ⟨s7, hs7⟩ : ∃ u', u7.setCell ⟨w21.heap.size, 0, none⟩ (.slice q7 (mm + 1) c7) = u' := ⟨_, rfl⟩
                             have ak7 := Lib.hid (AkR.next (a := (⟨⟨rt, rk, ri⟩, hq, hn, hc, wq, wn, wd⟩, d)) (akX).out hG21.out hbL1.out.1 row7 hg7 hs7)
                             have cc7 : u7.cell? ⟨w21.heap.size, 0, none⟩ = some (.slice lq mm lc) := x7.out.cell 0
                             have ff7 : u7.frozen? ⟨w21.heap.size, 0, none⟩ = false := x7.out.free 0
                             have gg7 : Hid (Fr (fun j => j = w21.heap.size ∨ some j = lq.map (·.block)) WL1 s7) := by
                               have h1 : Fr (fun j => j = w21.heap.size) u7 s7 := by rw [← hs7]; exact Fr.of_set _ _ _ rfl
                               exact (Fr.of_grown hg7 (fun j e => .inr e.symm)).trans (h1.mono (fun j _ e => .inl e))
                             clear row7 hg7 hq7 x7))
                        go_roundw
                        case rel => exact ⟨i + 1, mm + 1, q7, c7, by omega, by go_num, by rw [hsx'.out], by rw [hsx'.out]; exact ak7.out⟩
                        case measure => simp [intOf]; omega
                    | true =>
                      refine held_tk (i := 0) (dst := some 117) (v := .bool true) rfl rfl (y_move (.tmp 22) rfl rfl rfl) hS0 ?_
                      go_frame
                      refine held_tk (i := 1) (dst := some 118) (v := .bool false) rfl rfl (.inl ⟨rfl, fun u hu => by obtain ⟨e0, e1, e2, r0, r1, r2⟩ := hD9.out u hu; go_simp⟩) hS0 ?_
                      go_frame
                      refine held_tk (i := 2) (dst := some 119) (v := .bool false) rfl rfl (y_move (.tmp 118) rfl rfl rfl) hS0 ?_
                      go_frame
                      refine held_tk (i := 3) (dst := some 120) (v := undef) rfl rfl (.inr ⟨rfl, rfl⟩) hS0 ?_
                      go_frame
                      refine held_tk (i := 4) (dst := some 121) (v := undef) rfl rfl (.inr ⟨rfl, rfl⟩) hS0 ?_
                      go_frame
                      refine held_tk (i := 5) (dst := some 122) (v := undef) rfl rfl (.inr ⟨rfl, rfl⟩) hS0 ?_
                      go_frame
                      refine held_tk (i := 6) (dst := some 123) (v := undef) rfl rfl (.inr ⟨rfl, rfl⟩) hS0 ?_
                      go_frame
                      refine held_tk (i := 7) (dst := some 124) (v := undef) rfl rfl (.inr ⟨rfl, rfl⟩) hS0 ?_
                      go_frame
                      refine held_tk (i := 8) (dst := some 125) (v := undef) rfl rfl (.inr ⟨rfl, rfl⟩) hS0 ?_
                      go_frame
                      refine held_tk (i := 9) (dst := some 126) (v := .bool false) rfl rfl (.inl ⟨rfl, fun u hu => by obtain ⟨e0, e1, e2, r0, r1, r2⟩ := hD9.out u hu; go_simp⟩) hS0 ?_
                      go_frame
                      refine wpAnyH_done (by kernel_rfl) ?_ _
                      have hbX := Lib.hid hS0
                      have akX := Lib.hid (hr.out.mono (below_step hbX.out hbA.out.1))
                      have elX := Lib.hid (hbA.out.2.1.below hbX.out (Nat.le_refl _))
                      have hw21X := Lib.hid (below_step hbX.out (below_step hbA.out.1 hb3r.out))
                      have rsX := Lib.hid (x121.out.below hw21X.out (Nat.le_refl _))
                      have rrX : Hid (∀ j v, ([.int .i64 rt, .bool rk, .int .u16 ri] : List Value)[j]? = some v → u0.cell? ((⟨wr2.heap.size, 0, none⟩ : Addr).add j) = some v) := fun j v hj => elX.out.part (o := 0) (ys := [.int .i64 rt, .bool rk, .int .u16 ri]) (fun j v hj => by match j, hj with | 0, h => exact h | 1, h => exact h | 2, h => exact h | j + 3, h => simp at h) j v hj
                      have qbX := Lib.hid (hy1.out.below hw21X.out)
                      have kX : u0.cell? ⟨w21.heap.size, 0, none⟩ = some (.slice lq mm lc) := akX.out.box.cell 0
                      have hlqb : Hid (∀ b, lq = some b → W3.heap.size ≤ b.block ∧ b.block < wr2.heap.size) := fun b hb => hr.out.row.far b hb
                      by_cases hre : (⟨rt, rk, ri⟩ : ResD) = ⟨t, k, id⟩
                      · rw [decide_eq_true hre] at hneq
                        have hsx := hnx.out
                        unfold qStep at hsx
                        simp only [hdr.out, hre, if_true] at hsx
                        rw [if_neg (fun h => by simp at h)] at hsx
                        have hsx' := Lib.hid hsx
                        clear hsx hre
                        go_wp2_with (first
                          | (with_reducible refine wpList_load_at rfl 30 (.tmp 133) rfl Tryz.underlying30 rfl sr rfl rrX.out ?_)
                          | (with_reducible refine wpList_load_at rfl 30 (.tmp 6) rfl Tryz.underlying30 rfl s3 rfl rsX.out.all ?_))
                        go_roundw
                        case rel => exact ⟨i + 1, mm, lq, lc, by omega, by go_num, by rw [hsx'.out], by rw [hsx'.out]; exact akX.out⟩
                        case measure => simp [intOf]; omega
                      · rw [decide_eq_false hre] at hneq
                        have hsx := hnx.out
                        unfold qStep at hsx
                        simp only [hdr.out, hre, if_false] at hsx
                        rw [if_neg (fun h => by simp at h)] at hsx
                        have hsx' := Lib.hid hsx
                        clear hsx hre
                        obtain ⟨WL1, hWL1⟩ : ∃ u', u0.alloc (.cells #[.int .i64 rt, .bool rk, .int .u16 ri, .slice hq hn hc, .slice wq wn wd] 43) = u' := ⟨_, rfl⟩
                        have hbL1 := Lib.hid (one_box (xs := [.int .i64 rt, .bool rk, .int .u16 ri, .slice hq hn hc, .slice wq wn wd]) hWL1)
                        have lit1 := Lib.hid (OwnS.single (RowV.made' (cs := Cel.cells (⟨⟨rt, rk, ri⟩, hq, hn, hc, wq, wn, wd⟩ : QV)) hWL1)).reads
                        have own1 := Lib.hid ((akX).out.row.below hbL1.out.1)
                        have hz1 : Hid (W3.heap.size ≤ WL1.heap.size) := by have h1 := (akX).out.fr.size; have h2 := hbL1.out.2.2; show _ ≤ _; omega
                        go_wp2_with (first
                          | (with_reducible refine wpList_load_at rfl 30 (.tmp 133) rfl Tryz.underlying30 rfl sr rfl rrX.out ?_)
                          | (with_reducible refine wpList_load_at rfl 30 (.tmp 6) rfl Tryz.underlying30 rfl s3 rfl rsX.out.all ?_)
                          | (with_reducible refine wpList_load_at rfl 43 (.tmp 24) rfl Tryz.underlying43 rfl sq rfl elX.out.all ?_)
                          | (at_builtin
                             refine wpList_append_l Tryz.underlying22 infoQue rfl rfl (.tmp 138) (.tmp 140) rfl rfl rfl own1.out lit1.out (by omega) (by omega) hz1.out ?_
                             intro q7 c7 u7 row7 hg7 hq7
                             have x7 := Lib.hid (((akX).out.box.below hbL1.out.1).block (hg7.block _ ((akX).out.box.below hbL1.out.1).lt ((akX).out.far hG21.out)))
                             obtain ⟨s7, hs7⟩ : ∃ u', u7.setCell ⟨w21.heap.size, 0, none⟩ (.slice q7 (mm + 1) c7) = u' := ⟨_, rfl⟩
                             have ak7 := Lib.hid (AkR.next (a := (⟨⟨rt, rk, ri⟩, hq, hn, hc, wq, wn, wd⟩, d)) (akX).out hG21.out hbL1.out.1 row7 hg7 hs7)
                             have cc7 : u7.cell? ⟨w21.heap.size, 0, none⟩ = some (.slice lq mm lc) := x7.out.cell 0
                             have ff7 : u7.frozen? ⟨w21.heap.size, 0, none⟩ = false := x7.out.free 0
                             have gg7 : Hid (Fr (fun j => j = w21.heap.size ∨ some j = lq.map (·.block)) WL1 s7) := by
                               have h1 : Fr (fun j => j = w21.heap.size) u7 s7 := by rw [← hs7]; exact Fr.of_set _ _ _ rfl
                               exact (Fr.of_grown hg7 (fun j e => .inr e.symm)).trans (h1.mono (fun j _ e => .inl e))
                             clear row7 hg7 hq7 x7))
                        go_roundw
                        case rel => exact ⟨i + 1, mm + 1, q7, c7, by omega, by go_num, by rw [hsx'.out], by rw [hsx'.out]; exact ak7.out⟩
                        case measure => simp [intOf]; omega
                  · obtain rfl : n = i := by omega
                    have hfold := qFold_done (Z := Z) (r := ⟨t, k, id⟩) (p := p) (n := n) (L := L) (f := fun d => if gd = true then graD ⟨x, want, own⟩ d else linD ⟨x, want, own⟩ d) hZs.out hso.out hZl.out (by rw [hp2.out, hD'.out]; exact hD2'.out.symm)
                    rw [hst'.out] at hfold
                    have hL' := ask_fin (gd := gd) hask'.out hDf'.out.2.1 hDf'.out.2.2 (by rw [← hgd'.out, hgb'.out, hbl.out])
                    rw [hL'.1] at hfold
                    obtain ⟨_, hla, rfl⟩ := hL'
                    obtain rfl : a2 = a := hya.out.symm.trans hla
                    have hfold' := Lib.hid hfold
                    have hW1 : Hid (W1.heap.size < w21.heap.size ∧ W1.heap.size < W2.heap.size) := by have h1 := hs0.out; have h2 := hu21.out.size; have h3 := hbW2.out.size; exact ⟨by omega, by omega⟩
                    have hmem : Hid (∀ a ∈ qFin p (l, laid), ∀ u u9 u' : World, Below w21.heap.size w21 u → u.grownBy u9 (some W1.heap.size) → Below w.heap.size w u9 → Fr (fun j => w0.heap.size ≤ j ∧ j < w.heap.size) u9 u' → a.1.On u' a.2) := fun a ha u u9 u' hu hu9 hb9 hf => by
                      have h1 : a = p ∨ a ∈ Z := qFin_mem (r := ⟨t, k, id⟩) (n := n) (by rw [hst'.out]; exact ha)
                      have hww : w.heap.size ≤ W2.heap.size := by have h2 := hbW.out.size; have h3 := hbW2.out.size; omega
                      rcases h1 with h1 | h1
                      · rw [h1, hp1.out, hp2.out]
                        exact ((hy2.out.below hu (Nat.le_refl _)).gr hu9 (fun b hb e => by have h2 := hy5.out.1 b hb; have h3 := hW1.out.2; omega) (fun b hb e => by have h2 := hy5.out.2 b hb; have h3 := hW1.out.2; omega)).frs hf (fun b hb e => by have h2 := hy5.out.1 b hb; have h3 := e.2; omega) (fun b hb e => by have h2 := hy5.out.2 b hb; have h3 := e.2; omega)
                      · exact (hZon.out a h1).below (old_below hw0'.out hb9 hf) (Nat.le_refl _)
                    have hw3 : Hid (w.heap.size ≤ W3.heap.size) := by show _ ≤ _; have h2 := hbW.out.size; have h3 := hu21.out.size; have h4 := hG21.out; omega
                    clear hfold
                    cases laid with
                    | true =>
                      have sL := sizeLks (.slice lq mm lc)
                      have honeL : ∀ y ∈ ([.slice lq mm lc] : List Value), y.oneCell' = true := fun y hy => by obtain rfl := List.mem_singleton.1 hy; rfl
                      have hrz := Lib.hid (hr221.out.below hb3r.out)
                      go_wp2_with (first
                        | (with_reducible refine wpList_load_at rfl 24 (.tmp 21) rfl Tryz.underlying24 rfl sL rfl hr.out.box.boxed.all ?_)
                        | ((with_reducible refine wpList_store_at rfl 24 (.tmp 8) (.tmp 152) rfl (o := 0) (vs := [.slice lq mm lc]) rfl rfl hrz.out sL (Nat.le_refl _) honeL ?_)
                           intro w9 h9 hg9
                           have q9 : Hid (RowV 24 w9 W1.heap.size [.slice lq mm lc]) := h9
                           have hg9' := Lib.hid hg9
                           have hlo : Hid (W1.heap.size < w21.heap.size) := by show _ < _; have h1 := hs0.out; have h2 := hu21.out.size; omega
                           clear h9 hg9))
                      have m0 := q9.out.cell 0
                      simp only [List.getElem?_cons_zero] at m0
                      have hfin9 := low_step (below_step hbwr.out hbW.out) hg9'.out (by have := hs0.out; omega)
                      refine bodyPost_ret (v := .tuple #[.agg #[.slice lq mm lc], .int .i64 a2, .int .i64 0]) (by simp [results, Tryz.results35, go_sem, m0]) rfl ⟨lq, mm, lc, l.map (·.1), rfl, ?_, ?_⟩
                      · intro u hu
                        rw [← hfold'.out]
                        refine hr.out.lk (fun a ha => hmem.out a ha wr2 w9 u hb3r.out hg9'.out hfin9 hu) ((hr.out.row.gr hg9'.out (by have h1 := hlo.out; have h2 := hG21.out; omega)).fr hu (fun b hb e => by have h1 := (hr.out.row.far b hb).1; have h2 := hw3.out; have h3 := e.2; omega))
                      · exact hfin9
                    | false =>
                      have sL := fun (q' : Option Addr) (c' : Nat) => sizeLks (.slice q' (mm + 1) c')
                      have honeL : ∀ (q' : Option Addr) (c' : Nat), ∀ y ∈ ([.slice q' (mm + 1) c'] : List Value), y.oneCell' = true := fun q' c' y hy => by obtain rfl := List.mem_singleton.1 hy; rfl
                      have qbX := Lib.hid (hy1.out.below hb3r.out)
                      have kX : wr2.cell? ⟨w21.heap.size, 0, none⟩ = some (.slice lq mm lc) := hr.out.box.cell 0
                      have hlqb : Hid (∀ b, lq = some b → W3.heap.size ≤ b.block ∧ b.block < wr2.heap.size) := fun b hb => hr.out.row.far b hb
                      obtain ⟨WL1, hWL1⟩ : ∃ u', wr2.alloc (.cells #[.int .i64 t, .bool k, .int .u16 id, .slice eq_ en ec, .slice fq fn fc] 43) = u' := ⟨_, rfl⟩
                      have hbL1 := Lib.hid (one_box (xs := [.int .i64 t, .bool k, .int .u16 id, .slice eq_ en ec, .slice fq fn fc]) hWL1)
                      have lit1 := Lib.hid (OwnS.single (RowV.made' (cs := Cel.cells (⟨⟨t, k, id⟩, eq_, en, ec, fq, fn, fc⟩ : QV)) hWL1)).reads
                      have own1 := Lib.hid ((hr).out.row.below hbL1.out.1)
                      have hz1 : Hid (W3.heap.size ≤ WL1.heap.size) := by have h1 := (hr).out.fr.size; have h2 := hbL1.out.2.2; show _ ≤ _; omega
                      go_wp2_with (first
                        | (with_reducible refine wpList_load_at rfl 43 (.tmp 15) rfl Tryz.underlying43 rfl s9e rfl qbX.out.boxed.all ?_)
                        | (at_builtin
                           refine wpList_append_l Tryz.underlying22 infoQue rfl rfl (.tmp 147) (.tmp 149) rfl rfl rfl own1.out lit1.out (by omega) (by omega) hz1.out ?_
                           intro q7 c7 u7 row7 hg7 hq7
                           have x7 := Lib.hid (((hr).out.box.below hbL1.out.1).block (hg7.block _ ((hr).out.box.below hbL1.out.1).lt ((hr).out.far hG21.out)))
                           obtain ⟨s7, hs7⟩ : ∃ u', u7.setCell ⟨w21.heap.size, 0, none⟩ (.slice q7 (mm + 1) c7) = u' := ⟨_, rfl⟩
                           have ak7 := Lib.hid (AkR.next (a := p) (hr).out hG21.out hbL1.out.1 (by rw [hp1.out]; exact row7) hg7 hs7)
                           have cc7 : u7.cell? ⟨w21.heap.size, 0, none⟩ = some (.slice lq mm lc) := x7.out.cell 0
                           have ff7 : u7.frozen? ⟨w21.heap.size, 0, none⟩ = false := x7.out.free 0
                           have gg7 : Hid (Fr (fun j => j = w21.heap.size ∨ some j = lq.map (·.block)) WL1 s7) := by
                             have h1 : Fr (fun j => j = w21.heap.size) u7 s7 := by rw [← hs7]; exact Fr.of_set _ _ _ rfl
                             exact (Fr.of_grown hg7 (fun j e => .inr e.symm)).trans (h1.mono (fun j _ e => .inl e))
                           have hb37 : Hid (Below w21.heap.size w21 s7) := hb3'.out.1.trans (ak7.out.fr.below (Nat.le_of_lt hG21.out) (fun j e => by have e2 : j = w21.heap.size := e; omega))
                           have hrz7 := Lib.hid (hr221.out.below hb37.out)
                           clear kX row7 hg7 hq7 x7)
                        | (with_reducible refine wpList_load_at rfl 24 (.tmp 21) rfl Tryz.underlying24 rfl (sL q7 c7) rfl ak7.out.box.boxed.all ?_)
                        | ((with_reducible refine wpList_store_at rfl 24 (.tmp 8) (.tmp 152) rfl (o := 0) (vs := [.slice q7 (mm + 1) c7]) rfl rfl hrz7.out (sL q7 c7) (Nat.le_refl _) (honeL q7 c7) ?_)
                           intro w9 h9 hg9
                           have q9 : Hid (RowV 24 w9 W1.heap.size [.slice q7 (mm + 1) c7]) := h9
                           have hg9' := Lib.hid hg9
                           have hlo : Hid (W1.heap.size < w21.heap.size) := by show _ < _; have h1 := hs0.out; have h2 := hu21.out.size; omega
                           clear h9 hg9))
                      have m0 := q9.out.cell 0
                      simp only [List.getElem?_cons_zero] at m0
                      have hfin9 := low_step (below_step (below_step hb37.out hu21.out) hbW.out) hg9'.out (by have := hs0.out; omega)
                      refine bodyPost_ret (v := .tuple #[.agg #[.slice q7 (mm + 1) c7], .int .i64 a2, .int .i64 0]) (by simp [results, Tryz.results35, go_sem, m0]) rfl ⟨q7, mm + 1, c7, (l ++ [p]).map (·.1), rfl, ?_, ?_⟩
                      · intro u hu
                        rw [← hfold'.out]
                        refine ak7.out.lk (fun a ha => hmem.out a ha s7 w9 u hb37.out hg9'.out hfin9 hu) ((ak7.out.row.gr hg9'.out (by have h1 := hlo.out; have h2 := hG21.out; omega)).fr hu (fun b hb e => by have h1 := (ak7.out.row.far b hb).1; have h2 := hw3.out; have h3 := e.2; omega))
                      · exact hfin9

end Go.Proofs.YtbgpppbcffpdbaaGreatDoor
