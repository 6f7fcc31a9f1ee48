/- The reader of record: lists. -/
import Derived.Test.YtocekhckmpkbmaaGreatQ23
namespace Go.Proofs.YtocekhckmpkbmaaGreat
open Go.RowKit
section
variable {β : Type}
/-- so many things read one behind the other -/
def ListQ (R : RSt → β → RSt → Prop) : Nat → RSt → List β → RSt → Prop
 | 0, t, L, t' => L = [] ∧ t' = t
 | n + 1, t, L, t' => ∃ M x t1, L = M ++ [x] ∧ ListQ R n t M t1 ∧ R t1 x t'
theorem ListQ.len {R : RSt → β → RSt → Prop} : ∀ {n : Nat} {t t' : RSt} {L : List β}, ListQ R n t L t' → L.length = n
 | 0, _, _, _, h => by rw [h.1]; rfl
 | n + 1, _, _, _, h => by obtain ⟨M, x, t1, rfl, h1, _⟩ := h; rw [List.length_append, h1.len]; rfl
def ListW (R : RSt → β → RSt → Prop) (most : Int) (t : RSt) (L : List β) (t' : RSt) : Prop :=
 (most < t.nm 1 ∧ L = [] ∧ t' = ⟨(t.nx 1).s, true⟩) ∨ (t.nm 1 ≤ most ∧ ListQ R (t.nm 1).toNat (t.nx 1) L t')
end
def TxnR (t : RSt) (x : TxnD) (t' : RSt) : Prop := x = ⟨t.nm 4, (t.nx 4).nm 8, ((t.nx 4).nx 8).nm 8, (((t.nx 4).nx 8).nx 8).nm 8, ((((t.nx 4).nx 8).nx 8).nx 8).nm 1⟩ ∧ t' = ((((t.nx 4).nx 8).nx 8).nx 8).nx 1
def PgR (t : RSt) (x : PgD) (t' : RSt) : Prop := x = ⟨t.nm 1, (t.nx 1).nm 8⟩ ∧ t' = (t.nx 1).nx 8
theorem infoImg : (Tryz.prog.info? 62).map (fun i => (i.zero, i.size, i.bytes)) = some (some (.agg #[.int .i64 0, .int .i64 0, .slice none 0 0, .slice none 0 0, .int .i64 0, .slice none 0 0, .slice none 0 0]), 7, 120) := by kernel_rfl
theorem infoStep : (Tryz.prog.info? 70).map (fun i => (i.zero, i.size, i.bytes)) = some (some (.agg #[.int .i64 0, .int .i64 0, .int .u16 0, .int .i64 0, .string ⟨#[]⟩, .int .i64 0]), 6, 56) := by kernel_rfl
theorem infoTxn : (Tryz.prog.info? 82).map (fun i => (i.zero, i.size, i.bytes)) = some (some (.agg #[.int .i64 0, .int .u64 0, .int .u64 0, .int .u64 0, .int .i64 0]), 5, 40) := by kernel_rfl
theorem infoPg : (Tryz.prog.info? 85).map (fun i => (i.zero, i.size, i.bytes)) = some (some (.agg #[.int .i64 0, .int .u64 0]), 2, 16) := by kernel_rfl
/-- images that were read: what each says, in memory above B -/
structure ApI (b : Option Nat) (v : ImgV) : Prop where
 xa : ∀ a, v.bef.rq = some a → v.bef.rn ≠ 0 → b ≠ some a.block
 xb : ∀ a, v.bef.kq = some a → v.bef.kn ≠ 0 → b ≠ some a.block
 xc : ∀ a, v.aft.rq = some a → v.aft.rn ≠ 0 → b ≠ some a.block
 xd : ∀ a, v.aft.kq = some a → v.aft.kn ≠ 0 → b ≠ some a.block
structure ImgsM (w : World) (B : Nat) (o : Option Nat) (V : List ImgV) (L : List ImgD) : Prop where
 len : V.length = L.length
 ap : ∀ v ∈ V, ApI o v
 on : ∀ (i : Nat) v x, V[i]? = some v → L[i]? = some x → ImgOn w v x
 far : ∀ v ∈ V, FarI B v
theorem ContOn.blk {w : World} {k : Int} {rq kq : Option Addr} {rn rc kn kc : Nat} {c : ContD} (h : ContOn w k rq rn rc kq kn kc c) : (∀ a, rq = some a → rn ≠ 0 → a.block < w.heap.size) ∧ (∀ a, kq = some a → kn ≠ 0 → a.block < w.heap.size) := by
 refine ⟨fun a ha hn => ?_, fun a ha hn => ?_⟩
 · obtain ⟨A, r, hA, _, _, hc⟩ := h.rows.at (i := 0) (by omega)
   rw [ha] at hA
   cases hA
   have h1 := cell_in (hc 0 _ rfl)
   have e : ((a.add (0 * 4)).add 0).block = a.block := by unfold Addr.add; (repeat' split) <;> rfl
   rwa [e] at h1
 · obtain ⟨A, r, hA, _, _, hc⟩ := h.kids.at (i := 0) (by omega)
   rw [ha] at hA
   cases hA
   have h1 := cell_in (hc 0 _ rfl)
   have e : ((a.add (0 * 3)).add 0).block = a.block := by unfold Addr.add; (repeat' split) <;> rfl
   rwa [e] at h1
theorem RowsOn.gr0 {w w' : World} {q : Option Addr} {n c : Nat} {r : Option Nat} {l : List RowD} (h : RowsOn w q n c l) (hg : w.grownBy w' r) (hne : ∀ a, q = some a → n ≠ 0 → r ≠ some a.block) : RowsOn w' q n c l :=
 ⟨h.len, h.le, h.cap, h.nil, fun i x hi => by
  obtain ⟨a, rfl, hc⟩ := h.get i x hi
  refine ⟨a, rfl, fun j y hj => ?_⟩
  have hx := hc j y hj
  have e : ((a.add (i * 4)).add j).block = a.block := by unfold Addr.add; (repeat' split) <;> rfl
  have hlt := cell_in hx
  rw [e] at hlt
  have hn : n ≠ 0 := by have h1 := h.len; have h2 := (List.getElem?_eq_some_iff.1 hi).1; omega
  rw [World.cell?_of_block (w := w) (by rw [e]; exact hg.block _ hlt (fun e2 => hne a rfl hn e2.symm))]
  exact hx, h.ok⟩
theorem KidsOn.gr0 {w w' : World} {q : Option Addr} {n c : Nat} {r : Option Nat} {l : List KidD} (h : KidsOn w q n c l) (hg : w.grownBy w' r) (hne : ∀ a, q = some a → n ≠ 0 → r ≠ some a.block) : KidsOn w' q n c l :=
 ⟨h.len, h.le, h.cap, h.nil, fun i x hi => by
  obtain ⟨a, rfl, hc⟩ := h.get i x hi
  refine ⟨a, rfl, fun j y hj => ?_⟩
  have hx := hc j y hj
  have e : ((a.add (i * 3)).add j).block = a.block := by unfold Addr.add; (repeat' split) <;> rfl
  have hlt := cell_in hx
  rw [e] at hlt
  have hn : n ≠ 0 := by have h1 := h.len; have h2 := (List.getElem?_eq_some_iff.1 hi).1; omega
  rw [World.cell?_of_block (w := w) (by rw [e]; exact hg.block _ hlt (fun e2 => hne a rfl hn e2.symm))]
  exact hx, h.ok⟩
theorem ImgOn.gr0 {w w' : World} {r : Option Nat} {v : ImgV} {x : ImgD} (h : ImgOn w v x) (hg : w.grownBy w' r) (hne : ApI r v) : ImgOn w' v x :=
 ⟨h.page, h.pok, ⟨h.bef.kind, h.bef.rows.gr0 hg hne.xa, h.bef.kids.gr0 hg hne.xb⟩, ⟨h.aft.kind, h.aft.rows.gr0 hg hne.xc, h.aft.kids.gr0 hg hne.xd⟩⟩
theorem ImgOn.kept2 {w w' : World} {g gr B : Nat} {v : ImgV} {x : ImgD} (h : ImgOn w v x) (hs : RStep w w' g gr) (hf : FarI B v) (h1 : g < B) (h2 : gr < B) : ImgOn w' v x :=
 ⟨h.page, h.pok, ContOn.kept2 h.bef hs (fun a ha => by have := hf.a a ha; omega) (fun a ha => by have := hf.b a ha; omega), ContOn.kept2 h.aft hs (fun a ha => by have := hf.c a ha; omega) (fun a ha => by have := hf.d a ha; omega)⟩
theorem ImgOn.new {w : World} {v : ImgV} {x : ImgD} (h : ImgOn w v x) : ApI (some w.heap.size) v :=
 ⟨fun a ha hn e => by have := (ContOn.blk h.bef).1 a ha hn; simp only [Option.some.injEq] at e; omega, fun a ha hn e => by have := (ContOn.blk h.bef).2 a ha hn; simp only [Option.some.injEq] at e; omega, fun a ha hn e => by have := (ContOn.blk h.aft).1 a ha hn; simp only [Option.some.injEq] at e; omega, fun a ha hn e => by have := (ContOn.blk h.aft).2 a ha hn; simp only [Option.some.injEq] at e; omega⟩
theorem FarI.ap {B : Nat} {b : Option Nat} {v : ImgV} (h : FarI B v) (hb : ∀ k, b = some k → k < B) : ApI b v :=
 ⟨fun a ha _ e => by have h1 := hb _ e; have h2 := h.a a ha; omega, fun a ha _ e => by have h1 := hb _ e; have h2 := h.b a ha; omega, fun a ha _ e => by have h1 := hb _ e; have h2 := h.c a ha; omega, fun a ha _ e => by have h1 := hb _ e; have h2 := h.d a ha; omega⟩
theorem FarI.less {B C : Nat} {v : ImgV} (h : FarI B v) (hc : C ≤ B) : FarI C v := ⟨h.a.less hc, h.b.less hc, h.c.less hc, h.d.less hc⟩
theorem ImgPost.sp {R : RSt → ImgD → RSt → Prop} {w : World} {g gr : Nat} {d : Option Nat} {all : List UInt8} {t : RSt} {e : Ending} {w' : World} (h : ImgPost R w g gr d all t e w') :
 ∃ (p k1 : Int) (q1 : Option Addr) (n1 c1 : Nat) (q2 : Option Addr) (n2 c2 : Nat) (k3 : Int) (q3 : Option Addr) (n3 c3 : Nat) (q4 : Option Addr) (n4 c4 : Nat) (x : ImgD) (t' : RSt), e = .returned (.agg #[.int .i64 p, .int .i64 k1, .slice q1 n1 c1, .slice q2 n2 c2, .int .i64 k3, .slice q3 n3 c3, .slice q4 n4 c4]) ∧ ImgOn w' ⟨p, ⟨k1, q1, n1, c1, q2, n2, c2⟩, ⟨k3, q3, n3, c3, q4, n4, c4⟩⟩ x ∧ FarI w.heap.size ⟨p, ⟨k1, q1, n1, c1, q2, n2, c2⟩, ⟨k3, q3, n3, c3, q4, n4, c4⟩⟩ ∧ R t x t' ∧ RStep w w' g gr ∧ RR w' g gr d all t' := by
 obtain ⟨⟨p, ⟨k1, q1, n1, c1, q2, n2, c2⟩, ⟨k3, q3, n3, c3, q4, n4, c4⟩⟩, x, t', rfl, h⟩ := h
 exact ⟨p, k1, q1, n1, c1, q2, n2, c2, k3, q3, n3, c3, q4, n4, c4, x, t', rfl, h⟩
theorem StpPost.sp {w : World} {g gr : Nat} {d : Option Nat} {all : List UInt8} {t : RSt} {e : Ending} {w' : World} (h : StpPost w g gr d all t e w') :
 ∃ (kd ti id v : Int) (s : ByteArray) (by_ : Int) (t' : RSt), e = .returned (.agg #[.int .i64 kd, .int .i64 ti, .int .u16 id, .int .i64 v, .string s, .int .i64 by_]) ∧ StepR t ⟨kd, ⟨⟨ti, id⟩, v, s⟩, by_⟩ t' ∧ RStep w w' g gr ∧ RR w' g gr d all t' := by
 obtain ⟨⟨kd, ⟨⟨ti, id⟩, v, s⟩, by_⟩, t', rfl, h⟩ := h
 exact ⟨kd, ti, id, v, s, by_, t', rfl, h⟩
theorem get_snoc {α : Type} {L : List α} {x y : α} {i : Nat} (h : (L ++ [x])[i]? = some y) : (i < L.length ∧ L[i]? = some y) ∨ (i = L.length ∧ y = x) := by
 by_cases hi : i < L.length
 · rw [List.getElem?_append_left hi] at h; exact .inl ⟨hi, h⟩
 · rw [List.getElem?_append_right (by omega)] at h
   have h2 : i - L.length = 0 := by
    by_cases h3 : i - L.length = 0
    · exact h3
    · rw [List.getElem?_eq_none (by simp; omega)] at h; cases h
   rw [h2] at h
   exact .inr ⟨by omega, by simpa using h.symm⟩
set_option maxRecDepth 100000 in
set_option maxHeartbeats 8000000 in
theorem listimg_rr {w : World} {g gr : Nat} {d : Option Nat} {all : List UInt8} {t : RSt} (h : RR w g gr d all t) (most : Int) (hm0 : 0 ≤ most) (hm1 : most < 256) :
 Calls Tryz.prog 120 #[.pointer (some ⟨g, 0, none⟩), .int .i64 most, .func (.func 121) #[.pointer (some ⟨g, 0, none⟩)] #[]] w (fun e w' => ∃ (q : Option Addr) (m c : Nat) (V : List ImgV) (L : List ImgD) (t' : RSt), e = .returned (.slice q m c) ∧ OwnS 62 w' w.heap.size (.slice q m c) V ∧ ImgsM w' w.heap.size (q.map (·.block)) V L ∧ ListW ImageR most t L t' ∧ RStep w w' g gr ∧ RR w' g gr d all t') := by
 have c0 := h.c0
 have hgs := Lib.hid h.lt
 have hgrs := Lib.hid h.ltr
 have hds := Lib.hid h.src
 have hr := Lib.hid h
 obtain ⟨b0, b1⟩ := nm1 t
 obtain ⟨z, hz⟩ : ∃ z, t.nm 1 = z := ⟨_, rfl⟩
 have hu := rr8 h
 rw [hz] at b0 b1 hu
 have hu := Lib.hid hu
 have hz := Lib.hid hz
 have hm0 := Lib.hid hm0
 have hm1 := Lib.hid hm1
 obtain ⟨N, rfl⟩ : ∃ N : Nat, z = N := ⟨z.toNat, by omega⟩
 clear h b0
 go_enter Tryz.func120, Tryz.ntmps120
 go_wp2_with fail
 refine hu.out.mono ?_
 clear c0 hu
 rintro e w1 ⟨rfl, hs, hr1⟩
 have st1 := Lib.hid hs
 have hr1 := Lib.hid hr1
 clear hs
 have e1 : IntKind.i64.wrap (N : Int) = N := IntWalk.i64_in _ (by omega)
 by_cases hgt : most < (N : Int)
 · have dg : decide ((N : Int) > most) = true := decide_eq_true hgt
   obtain ⟨q0, n0, c0', hq⟩ := hr1.out
   have c2 : w1.cell? ⟨g, 2, none⟩ = some (.bool (t.nx 1).b) := hq.row.cell 2
   have f2 : w1.frozen? ⟨g, 2, none⟩ = false := hq.row.free 2
   obtain ⟨u8, hu8⟩ : ∃ y, w1.setCell ⟨g, 2, none⟩ (.bool true) = y := ⟨_, rfl⟩
   have hw8 := hq.wrong
   have hg8 := setCell_grown w1 g 2 (.bool true)
   rw [hu8] at hw8 hg8
   have hw8 := Lib.hid hw8
   have hg8 := Lib.hid hg8
   have hgt := Lib.hid hgt
   clear hq b1
   go_wp2
   go_ret
   exact ⟨none, 0, 0, [], [], _, rfl, OwnS.nil _ _ _, ⟨rfl, (fun v hv => by cases hv), (fun i v x hi => by simp at hi), (fun v hv => by cases hv)⟩, .inl ⟨by rw [hz.out]; exact hgt.out, rfl, rfl⟩, st1.out.trans (RStep.of_g hg8.out), ⟨q0, n0, c0', hw8.out⟩⟩
 have dg : decide ((N : Int) > most) = false := decide_eq_false hgt
 have hle : Hid ((N : Int) ≤ most) := by show (N : Int) ≤ most; omega
 have hN : Hid (N < 256) := by show N < 256; omega
 clear hgt
 have h0 : Hid (∃ (V : List ImgV) (L : List ImgD) (tj : RSt), OwnS 62 w1 w.heap.size (.slice none 0 0) V ∧ ImgsM w1 w.heap.size ((none : Option Addr).map (·.block)) V L ∧ ListQ ImageR 0 (t.nx 1) L tj ∧ RStep w w1 g gr ∧ RR w1 g gr d all tj) := ⟨[], [], _, OwnS.nil _ _ _, ⟨rfl, (fun v hv => by cases hv), (fun i v x hi => by simp at hi), (fun v hv => by cases hv)⟩, ⟨rfl, rfl⟩, st1.out, hr1.out⟩
 go_wp2
 clear dg e1 b1
 go_loopw [22, 8] (fun v22 v8 wr => ∃ (j : Nat) (q : Option Addr) (c : Nat), j ≤ N ∧ v22 = .int .i64 j ∧ v8 = .slice q j c ∧ Hid (∃ (V : List ImgV) (L : List ImgD) (tj : RSt), OwnS 62 wr w.heap.size (.slice q j c) V ∧ ImgsM wr w.heap.size (q.map (·.block)) V L ∧ ListQ ImageR j (t.nx 1) L tj ∧ RStep w wr g gr ∧ RR wr g gr d all tj)) (fun v22 _ _ => N - (RowKit.intOf v22).toNat)
 case atStart => exact ⟨0, none, 0, Nat.zero_le _, rfl, rfl, h0⟩
 case round =>
  obtain ⟨j, q, c, hj, rfl, rfl, hst⟩ := hrel
  clear h0
  by_cases hlt : j < N
  · obtain ⟨V, L, tj, hown, hmean, hl, hs, hrj⟩ := hst.out
    clear hst
    have i0 : (0 : Int) ≤ j := by omega
    have i1 : (j : Int) < N := by omega
    have hown := Lib.hid hown
    have hmean := Lib.hid hmean
    have hl := Lib.hid hl
    have stj := Lib.hid hs
    have hrj := Lib.hid hrj
    have hwz : Hid (w.heap.size ≤ wr.heap.size) := hs.size
    clear hs
    have hc1 := Lib.hid (image_rr hrj.out)
    go_wp2_with fail
    refine hc1.out.mono ?_
    clear hc1
    intro e w2 hpo
    obtain ⟨p, k1, q1, n1, c1, q2, n2, c2, k3, q3, n3, c3, q4, n4, c4, x, tk, rfl, hon, hfar, hR, hs, hrk⟩ := hpo.sp
    have hon := Lib.hid hon
    have hfar := Lib.hid hfar
    have hR := Lib.hid hR
    have s12 := Lib.hid hs
    have hrk := Lib.hid hrk
    clear hs
    have hown2 : Hid (OwnS 62 w2 w.heap.size (.slice q j c) V) := hown.out.kept (fun a ha => s12.out.block _ (hown.out.far a ha).2 (by have h1 := (hown.out.far a ha).1; have h2 := hgs.out; omega) (by have h1 := (hown.out.far a ha).1; have h2 := hgrs.out; omega))
    obtain ⟨w3, hw3⟩ : ∃ y, w2.alloc (.cells #[.int .i64 p, .int .i64 k1, .slice q1 n1 c1, .slice q2 n2 c2, .int .i64 k3, .slice q3 n3 c3, .slice q4 n4 c4] 62) = y := ⟨_, rfl⟩
    have hb3 : Hid (Below w2.heap.size w2 w3) := by rw [← hw3]; exact (Below.refl _ _).alloc (Nat.le_refl _) _
    have hro3 : RowV 62 w3 w2.heap.size (Cel.cells (⟨p, ⟨k1, q1, n1, c1, q2, n2, c2⟩, ⟨k3, q3, n3, c3, q4, n4, c4⟩⟩ : ImgV)) := by rw [← hw3]; exact RowV.made w2 _
    have hsl3 := Lib.hid (OwnS.single hro3).reads
    have hown3 := Lib.hid (hown2.out.below hb3.out)
    have hw3s : Hid (w.heap.size ≤ w3.heap.size) := by have h1 := hwz.out; have h2 := s12.out.size; have h3 := hb3.out.size; show _ ≤ _; omega
    clear hro3
    have hNv : N < 256 := hN.out
    go_wp2_with (first
     | (at_builtin
        refine wpList_append_l Tryz.underlying25 infoImg rfl rfl (.tmp 24) (.tmp 27) rfl rfl rfl hown3.out hsl3.out (by have h1 := hN.out; omega) (by have h1 := hN.out; omega) hw3s.out ?_
        intro q4' c4' w4 h4 hg4 hat
        have h4 := Lib.hid h4
        have hg4 := Lib.hid hg4
        have hat := Lib.hid hat))
    clear hw3
    have hq4 : Hid (∀ k, q.map (·.block) = some k → w.heap.size ≤ k ∧ k < wr.heap.size) := fun k e => by
     cases q with
     | none => cases e
     | some a => have h1 := hown.out.far a rfl; have e : a.block = k := by simpa using e
                 omega
    have hb4 : Hid (RStep w w4 g gr) := by
     have h1 := stj.out.trans (s12.out.trans (RStep.of_below hb3.out))
     exact ⟨hg4.out.os.trans h1.os, hg4.out.tape.trans h1.tape, hg4.out.output.trans h1.output, Nat.le_trans h1.size hg4.out.size, fun k hk e1 e2 => (hg4.out.block k (Nat.lt_of_lt_of_le hk h1.size) (fun e => by have h2 := (hq4.out k e.symm).1; omega)).trans (h1.block k hk e1 e2)⟩
    have hr4 : Hid (RR w4 g gr d all tk) := by
     have h1 := hrk.out.below hb3.out
     cases hqb : q.map (·.block) with
     | none => have h2 := hg4.out; rw [hqb] at h2; exact h1.below (grown_belowN h2 (Nat.le_refl _) (fun k e => by cases e))
     | some b => have h2 := hg4.out; rw [hqb] at h2; have h3 := (hq4.out b hqb).1; exact h1.new h2 (by have h4 := hgrs.out; omega) (by have h4 := hgs.out; omega) (fun e => by have h4 := hds.out _ e; omega)
    have hm4 : Hid (ImgsM w4 w.heap.size (q4'.map (·.block)) (V ++ [⟨p, ⟨k1, q1, n1, c1, q2, n2, c2⟩, ⟨k3, q3, n3, c3, q4, n4, c4⟩⟩]) (L ++ [x])) := by
     have hml := hmean.out.len
     have hbs : ∀ k, q.map (·.block) = some k → k < wr.heap.size := fun k e => (hq4.out k e).2
     have hnap : ApI (q.map (·.block)) ⟨p, ⟨k1, q1, n1, c1, q2, n2, c2⟩, ⟨k3, q3, n3, c3, q4, n4, c4⟩⟩ := hfar.out.ap hbs
     have hon3 := hon.out.below hb3.out (Nat.le_refl _)
     have hold : ∀ (i : Nat) v y, V[i]? = some v → L[i]? = some y → ImgOn w3 v y := fun i v y hv hy => ((hmean.out.on i v y hv hy).kept2 s12.out (hmean.out.far v (List.mem_of_getElem? hv)) hgs.out hgrs.out).below hb3.out (Nat.le_refl _)
     refine ⟨by rw [List.length_append, List.length_append, hml]; rfl, fun v hv => ?_, fun i v y hv hy => ?_, fun v hv => ?_⟩
     · rcases hat.out with e | e
       · rw [e]
         rcases List.mem_append.1 hv with hv | hv
         · exact hmean.out.ap v hv
         · rw [List.mem_singleton.1 hv]; exact hnap
       · rw [e]
         rcases List.mem_append.1 hv with hv | hv
         · obtain ⟨i, hi⟩ := List.mem_iff_getElem?.1 hv
           have hlen := (List.getElem?_eq_some_iff.1 hi).1
           exact (hold i v _ hi (List.getElem?_eq_getElem (by omega))).new
         · rw [List.mem_singleton.1 hv]; exact hon3.new
     · rcases get_snoc hv with ⟨h1, h2⟩ | ⟨h1, h2⟩
       · rcases get_snoc hy with ⟨h3, h4⟩ | ⟨h3, _⟩
         · exact (hold i v y h2 h4).gr0 hg4.out (hmean.out.ap v (List.mem_of_getElem? h2))
         · omega
       · rcases get_snoc hy with ⟨h3, _⟩ | ⟨_, h4⟩
         · omega
         · rw [h2, h4]; exact hon3.gr0 hg4.out hnap
     · rcases List.mem_append.1 hv with hv | hv
       · exact hmean.out.far v hv
       · rw [List.mem_singleton.1 hv]; exact hfar.out.less hwz.out
    have hl4 : Hid (ListQ ImageR (j + 1) (t.nx 1) (L ++ [x]) tk) := ⟨L, _, tj, rfl, hl.out, hR.out⟩
    clear hR hl
    go_wp2
    go_roundw
    case rel => exact ⟨j + 1, q4', c4', by omega, by go_num, rfl, _, _, tk, h4.out, hm4.out, hl4.out, hb4.out, hr4.out⟩
    case measure => simp [RowKit.intOf]; omega
  · obtain rfl : N = j := by omega
    go_wp2
    go_ret
    obtain ⟨V, L, tj, hown, hmean, hl, hs, hrj⟩ := hst.out
    exact ⟨q, N, c, V, L, tj, rfl, hown, hmean, .inr ⟨by rw [hz.out]; exact hle.out, by rw [hz.out]; exact hl⟩, hs, hrj⟩
set_option maxRecDepth 100000 in
set_option maxHeartbeats 8000000 in
theorem listimga_rr {w : World} {g gr : Nat} {d : Option Nat} {all : List UInt8} {t : RSt} (h : RR w g gr d all t) (most : Int) (hm0 : 0 ≤ most) (hm1 : most < 256) :
 Calls Tryz.prog 120 #[.pointer (some ⟨g, 0, none⟩), .int .i64 most, .func (.func 124) #[.pointer (some ⟨g, 0, none⟩)] #[]] w (fun e w' => ∃ (q : Option Addr) (m c : Nat) (V : List ImgV) (L : List ImgD) (t' : RSt), e = .returned (.slice q m c) ∧ OwnS 62 w' w.heap.size (.slice q m c) V ∧ ImgsM w' w.heap.size (q.map (·.block)) V L ∧ ListW AfterR most t L t' ∧ RStep w w' g gr ∧ RR w' g gr d all t') := by
 have c0 := h.c0
 have hgs := Lib.hid h.lt
 have hgrs := Lib.hid h.ltr
 have hds := Lib.hid h.src
 have hr := Lib.hid h
 obtain ⟨b0, b1⟩ := nm1 t
 obtain ⟨z, hz⟩ : ∃ z, t.nm 1 = z := ⟨_, rfl⟩
 have hu := rr8 h
 rw [hz] at b0 b1 hu
 have hu := Lib.hid hu
 have hz := Lib.hid hz
 have hm0 := Lib.hid hm0
 have hm1 := Lib.hid hm1
 obtain ⟨N, rfl⟩ : ∃ N : Nat, z = N := ⟨z.toNat, by omega⟩
 clear h b0
 go_enter Tryz.func120, Tryz.ntmps120
 go_wp2_with fail
 refine hu.out.mono ?_
 clear c0 hu
 rintro e w1 ⟨rfl, hs, hr1⟩
 have st1 := Lib.hid hs
 have hr1 := Lib.hid hr1
 clear hs
 have e1 : IntKind.i64.wrap (N : Int) = N := IntWalk.i64_in _ (by omega)
 by_cases hgt : most < (N : Int)
 · have dg : decide ((N : Int) > most) = true := decide_eq_true hgt
   obtain ⟨q0, n0, c0', hq⟩ := hr1.out
   have c2 : w1.cell? ⟨g, 2, none⟩ = some (.bool (t.nx 1).b) := hq.row.cell 2
   have f2 : w1.frozen? ⟨g, 2, none⟩ = false := hq.row.free 2
   obtain ⟨u8, hu8⟩ : ∃ y, w1.setCell ⟨g, 2, none⟩ (.bool true) = y := ⟨_, rfl⟩
   have hw8 := hq.wrong
   have hg8 := setCell_grown w1 g 2 (.bool true)
   rw [hu8] at hw8 hg8
   have hw8 := Lib.hid hw8
   have hg8 := Lib.hid hg8
   have hgt := Lib.hid hgt
   clear hq b1
   go_wp2
   go_ret
   exact ⟨none, 0, 0, [], [], _, rfl, OwnS.nil _ _ _, ⟨rfl, (fun v hv => by cases hv), (fun i v x hi => by simp at hi), (fun v hv => by cases hv)⟩, .inl ⟨by rw [hz.out]; exact hgt.out, rfl, rfl⟩, st1.out.trans (RStep.of_g hg8.out), ⟨q0, n0, c0', hw8.out⟩⟩
 have dg : decide ((N : Int) > most) = false := decide_eq_false hgt
 have hle : Hid ((N : Int) ≤ most) := by show (N : Int) ≤ most; omega
 have hN : Hid (N < 256) := by show N < 256; omega
 clear hgt
 have h0 : Hid (∃ (V : List ImgV) (L : List ImgD) (tj : RSt), OwnS 62 w1 w.heap.size (.slice none 0 0) V ∧ ImgsM w1 w.heap.size ((none : Option Addr).map (·.block)) V L ∧ ListQ AfterR 0 (t.nx 1) L tj ∧ RStep w w1 g gr ∧ RR w1 g gr d all tj) := ⟨[], [], _, OwnS.nil _ _ _, ⟨rfl, (fun v hv => by cases hv), (fun i v x hi => by simp at hi), (fun v hv => by cases hv)⟩, ⟨rfl, rfl⟩, st1.out, hr1.out⟩
 go_wp2
 clear dg e1 b1
 go_loopw [22, 8] (fun v22 v8 wr => ∃ (j : Nat) (q : Option Addr) (c : Nat), j ≤ N ∧ v22 = .int .i64 j ∧ v8 = .slice q j c ∧ Hid (∃ (V : List ImgV) (L : List ImgD) (tj : RSt), OwnS 62 wr w.heap.size (.slice q j c) V ∧ ImgsM wr w.heap.size (q.map (·.block)) V L ∧ ListQ AfterR j (t.nx 1) L tj ∧ RStep w wr g gr ∧ RR wr g gr d all tj)) (fun v22 _ _ => N - (RowKit.intOf v22).toNat)
 case atStart => exact ⟨0, none, 0, Nat.zero_le _, rfl, rfl, h0⟩
 case round =>
  obtain ⟨j, q, c, hj, rfl, rfl, hst⟩ := hrel
  clear h0
  by_cases hlt : j < N
  · obtain ⟨V, L, tj, hown, hmean, hl, hs, hrj⟩ := hst.out
    clear hst
    have i0 : (0 : Int) ≤ j := by omega
    have i1 : (j : Int) < N := by omega
    have hown := Lib.hid hown
    have hmean := Lib.hid hmean
    have hl := Lib.hid hl
    have stj := Lib.hid hs
    have hrj := Lib.hid hrj
    have hwz : Hid (w.heap.size ≤ wr.heap.size) := hs.size
    clear hs
    have hc1 := Lib.hid (after_rr hrj.out)
    go_wp2_with fail
    refine hc1.out.mono ?_
    clear hc1
    intro e w2 hpo
    obtain ⟨p, k1, q1, n1, c1, q2, n2, c2, k3, q3, n3, c3, q4, n4, c4, x, tk, rfl, hon, hfar, hR, hs, hrk⟩ := hpo.sp
    have hon := Lib.hid hon
    have hfar := Lib.hid hfar
    have hR := Lib.hid hR
    have s12 := Lib.hid hs
    have hrk := Lib.hid hrk
    clear hs
    have hown2 : Hid (OwnS 62 w2 w.heap.size (.slice q j c) V) := hown.out.kept (fun a ha => s12.out.block _ (hown.out.far a ha).2 (by have h1 := (hown.out.far a ha).1; have h2 := hgs.out; omega) (by have h1 := (hown.out.far a ha).1; have h2 := hgrs.out; omega))
    obtain ⟨w3, hw3⟩ : ∃ y, w2.alloc (.cells #[.int .i64 p, .int .i64 k1, .slice q1 n1 c1, .slice q2 n2 c2, .int .i64 k3, .slice q3 n3 c3, .slice q4 n4 c4] 62) = y := ⟨_, rfl⟩
    have hb3 : Hid (Below w2.heap.size w2 w3) := by rw [← hw3]; exact (Below.refl _ _).alloc (Nat.le_refl _) _
    have hro3 : RowV 62 w3 w2.heap.size (Cel.cells (⟨p, ⟨k1, q1, n1, c1, q2, n2, c2⟩, ⟨k3, q3, n3, c3, q4, n4, c4⟩⟩ : ImgV)) := by rw [← hw3]; exact RowV.made w2 _
    have hsl3 := Lib.hid (OwnS.single hro3).reads
    have hown3 := Lib.hid (hown2.out.below hb3.out)
    have hw3s : Hid (w.heap.size ≤ w3.heap.size) := by have h1 := hwz.out; have h2 := s12.out.size; have h3 := hb3.out.size; show _ ≤ _; omega
    clear hro3
    have hNv : N < 256 := hN.out
    go_wp2_with (first
     | (at_builtin
        refine wpList_append_l Tryz.underlying25 infoImg rfl rfl (.tmp 24) (.tmp 27) rfl rfl rfl hown3.out hsl3.out (by have h1 := hN.out; omega) (by have h1 := hN.out; omega) hw3s.out ?_
        intro q4' c4' w4 h4 hg4 hat
        have h4 := Lib.hid h4
        have hg4 := Lib.hid hg4
        have hat := Lib.hid hat))
    clear hw3
    have hq4 : Hid (∀ k, q.map (·.block) = some k → w.heap.size ≤ k ∧ k < wr.heap.size) := fun k e => by
     cases q with
     | none => cases e
     | some a => have h1 := hown.out.far a rfl; have e : a.block = k := by simpa using e
                 omega
    have hb4 : Hid (RStep w w4 g gr) := by
     have h1 := stj.out.trans (s12.out.trans (RStep.of_below hb3.out))
     exact ⟨hg4.out.os.trans h1.os, hg4.out.tape.trans h1.tape, hg4.out.output.trans h1.output, Nat.le_trans h1.size hg4.out.size, fun k hk e1 e2 => (hg4.out.block k (Nat.lt_of_lt_of_le hk h1.size) (fun e => by have h2 := (hq4.out k e.symm).1; omega)).trans (h1.block k hk e1 e2)⟩
    have hr4 : Hid (RR w4 g gr d all tk) := by
     have h1 := hrk.out.below hb3.out
     cases hqb : q.map (·.block) with
     | none => have h2 := hg4.out; rw [hqb] at h2; exact h1.below (grown_belowN h2 (Nat.le_refl _) (fun k e => by cases e))
     | some b => have h2 := hg4.out; rw [hqb] at h2; have h3 := (hq4.out b hqb).1; exact h1.new h2 (by have h4 := hgrs.out; omega) (by have h4 := hgs.out; omega) (fun e => by have h4 := hds.out _ e; omega)
    have hm4 : Hid (ImgsM w4 w.heap.size (q4'.map (·.block)) (V ++ [⟨p, ⟨k1, q1, n1, c1, q2, n2, c2⟩, ⟨k3, q3, n3, c3, q4, n4, c4⟩⟩]) (L ++ [x])) := by
     have hml := hmean.out.len
     have hbs : ∀ k, q.map (·.block) = some k → k < wr.heap.size := fun k e => (hq4.out k e).2
     have hnap : ApI (q.map (·.block)) ⟨p, ⟨k1, q1, n1, c1, q2, n2, c2⟩, ⟨k3, q3, n3, c3, q4, n4, c4⟩⟩ := hfar.out.ap hbs
     have hon3 := hon.out.below hb3.out (Nat.le_refl _)
     have hold : ∀ (i : Nat) v y, V[i]? = some v → L[i]? = some y → ImgOn w3 v y := fun i v y hv hy => ((hmean.out.on i v y hv hy).kept2 s12.out (hmean.out.far v (List.mem_of_getElem? hv)) hgs.out hgrs.out).below hb3.out (Nat.le_refl _)
     refine ⟨by rw [List.length_append, List.length_append, hml]; rfl, fun v hv => ?_, fun i v y hv hy => ?_, fun v hv => ?_⟩
     · rcases hat.out with e | e
       · rw [e]
         rcases List.mem_append.1 hv with hv | hv
         · exact hmean.out.ap v hv
         · rw [List.mem_singleton.1 hv]; exact hnap
       · rw [e]
         rcases List.mem_append.1 hv with hv | hv
         · obtain ⟨i, hi⟩ := List.mem_iff_getElem?.1 hv
           have hlen := (List.getElem?_eq_some_iff.1 hi).1
           exact (hold i v _ hi (List.getElem?_eq_getElem (by omega))).new
         · rw [List.mem_singleton.1 hv]; exact hon3.new
     · rcases get_snoc hv with ⟨h1, h2⟩ | ⟨h1, h2⟩
       · rcases get_snoc hy with ⟨h3, h4⟩ | ⟨h3, _⟩
         · exact (hold i v y h2 h4).gr0 hg4.out (hmean.out.ap v (List.mem_of_getElem? h2))
         · omega
       · rcases get_snoc hy with ⟨h3, _⟩ | ⟨_, h4⟩
         · omega
         · rw [h2, h4]; exact hon3.gr0 hg4.out hnap
     · rcases List.mem_append.1 hv with hv | hv
       · exact hmean.out.far v hv
       · rw [List.mem_singleton.1 hv]; exact hfar.out.less hwz.out
    have hl4 : Hid (ListQ AfterR (j + 1) (t.nx 1) (L ++ [x]) tk) := ⟨L, _, tj, rfl, hl.out, hR.out⟩
    clear hR hl
    go_wp2
    go_roundw
    case rel => exact ⟨j + 1, q4', c4', by omega, by go_num, rfl, _, _, tk, h4.out, hm4.out, hl4.out, hb4.out, hr4.out⟩
    case measure => simp [RowKit.intOf]; omega
  · obtain rfl : N = j := by omega
    go_wp2
    go_ret
    obtain ⟨V, L, tj, hown, hmean, hl, hs, hrj⟩ := hst.out
    exact ⟨q, N, c, V, L, tj, rfl, hown, hmean, .inr ⟨by rw [hz.out]; exact hle.out, by rw [hz.out]; exact hl⟩, hs, hrj⟩
set_option maxRecDepth 100000 in
set_option maxHeartbeats 8000000 in
theorem liststep_rr {w : World} {g gr : Nat} {d : Option Nat} {all : List UInt8} {t : RSt} (h : RR w g gr d all t) (most : Int) (hm0 : 0 ≤ most) (hm1 : most < 256) :
 Calls Tryz.prog 122 #[.pointer (some ⟨g, 0, none⟩), .int .i64 most, .func (.func 123) #[.pointer (some ⟨g, 0, none⟩)] #[]] w (fun e w' => ∃ (q : Option Addr) (m c : Nat) (V : List StepD) (L : List StepD) (t' : RSt), e = .returned (.slice q m c) ∧ OwnS 70 w' w.heap.size (.slice q m c) V ∧ V = L ∧ ListW StepR most t L t' ∧ RStep w w' g gr ∧ RR w' g gr d all t') := by
 have c0 := h.c0
 have hgs := Lib.hid h.lt
 have hgrs := Lib.hid h.ltr
 have hds := Lib.hid h.src
 have hr := Lib.hid h
 obtain ⟨b0, b1⟩ := nm1 t
 obtain ⟨z, hz⟩ : ∃ z, t.nm 1 = z := ⟨_, rfl⟩
 have hu := rr8 h
 rw [hz] at b0 b1 hu
 have hu := Lib.hid hu
 have hz := Lib.hid hz
 have hm0 := Lib.hid hm0
 have hm1 := Lib.hid hm1
 obtain ⟨N, rfl⟩ : ∃ N : Nat, z = N := ⟨z.toNat, by omega⟩
 clear h b0
 go_enter Tryz.func122, Tryz.ntmps122
 go_wp2_with fail
 refine hu.out.mono ?_
 clear c0 hu
 rintro e w1 ⟨rfl, hs, hr1⟩
 have st1 := Lib.hid hs
 have hr1 := Lib.hid hr1
 clear hs
 have e1 : IntKind.i64.wrap (N : Int) = N := IntWalk.i64_in _ (by omega)
 by_cases hgt : most < (N : Int)
 · have dg : decide ((N : Int) > most) = true := decide_eq_true hgt
   obtain ⟨q0, n0, c0', hq⟩ := hr1.out
   have c2 : w1.cell? ⟨g, 2, none⟩ = some (.bool (t.nx 1).b) := hq.row.cell 2
   have f2 : w1.frozen? ⟨g, 2, none⟩ = false := hq.row.free 2
   obtain ⟨u8, hu8⟩ : ∃ y, w1.setCell ⟨g, 2, none⟩ (.bool true) = y := ⟨_, rfl⟩
   have hw8 := hq.wrong
   have hg8 := setCell_grown w1 g 2 (.bool true)
   rw [hu8] at hw8 hg8
   have hw8 := Lib.hid hw8
   have hg8 := Lib.hid hg8
   have hgt := Lib.hid hgt
   clear hq b1
   go_wp2
   go_ret
   exact ⟨none, 0, 0, [], [], _, rfl, OwnS.nil _ _ _, rfl, .inl ⟨by rw [hz.out]; exact hgt.out, rfl, rfl⟩, st1.out.trans (RStep.of_g hg8.out), ⟨q0, n0, c0', hw8.out⟩⟩
 have dg : decide ((N : Int) > most) = false := decide_eq_false hgt
 have hle : Hid ((N : Int) ≤ most) := by show (N : Int) ≤ most; omega
 have hN : Hid (N < 256) := by show N < 256; omega
 clear hgt
 have h0 : Hid (∃ (V : List StepD) (L : List StepD) (tj : RSt), OwnS 70 w1 w.heap.size (.slice none 0 0) V ∧ V = L ∧ ListQ StepR 0 (t.nx 1) L tj ∧ RStep w w1 g gr ∧ RR w1 g gr d all tj) := ⟨[], [], _, OwnS.nil _ _ _, rfl, ⟨rfl, rfl⟩, st1.out, hr1.out⟩
 go_wp2
 clear dg e1 b1
 go_loopw [22, 8] (fun v22 v8 wr => ∃ (j : Nat) (q : Option Addr) (c : Nat), j ≤ N ∧ v22 = .int .i64 j ∧ v8 = .slice q j c ∧ Hid (∃ (V : List StepD) (L : List StepD) (tj : RSt), OwnS 70 wr w.heap.size (.slice q j c) V ∧ V = L ∧ ListQ StepR j (t.nx 1) L tj ∧ RStep w wr g gr ∧ RR wr g gr d all tj)) (fun v22 _ _ => N - (RowKit.intOf v22).toNat)
 case atStart => exact ⟨0, none, 0, Nat.zero_le _, rfl, rfl, h0⟩
 case round =>
  obtain ⟨j, q, c, hj, rfl, rfl, hst⟩ := hrel
  clear h0
  by_cases hlt : j < N
  · obtain ⟨V, L, tj, hown, hmean, hl, hs, hrj⟩ := hst.out
    clear hst
    have i0 : (0 : Int) ≤ j := by omega
    have i1 : (j : Int) < N := by omega
    have hown := Lib.hid hown
    have hmean := Lib.hid hmean
    have hl := Lib.hid hl
    have stj := Lib.hid hs
    have hrj := Lib.hid hrj
    have hwz : Hid (w.heap.size ≤ wr.heap.size) := hs.size
    clear hs
    have hc1 := Lib.hid (step_rr hrj.out)
    go_wp2_with fail
    refine hc1.out.mono ?_
    clear hc1
    intro e w2 hpo
    obtain ⟨kd, ti, id, v, s, by_, tk, rfl, hR, hs, hrk⟩ := hpo.sp
    have hR := Lib.hid hR
    have s12 := Lib.hid hs
    have hrk := Lib.hid hrk
    clear hs
    have hown2 : Hid (OwnS 70 w2 w.heap.size (.slice q j c) V) := hown.out.kept (fun a ha => s12.out.block _ (hown.out.far a ha).2 (by have h1 := (hown.out.far a ha).1; have h2 := hgs.out; omega) (by have h1 := (hown.out.far a ha).1; have h2 := hgrs.out; omega))
    obtain ⟨w3, hw3⟩ : ∃ y, w2.alloc (.cells #[.int .i64 kd, .int .i64 ti, .int .u16 id, .int .i64 v, .string s, .int .i64 by_] 70) = y := ⟨_, rfl⟩
    have hb3 : Hid (Below w2.heap.size w2 w3) := by rw [← hw3]; exact (Below.refl _ _).alloc (Nat.le_refl _) _
    have hro3 : RowV 70 w3 w2.heap.size (Cel.cells (⟨kd, ⟨⟨ti, id⟩, v, s⟩, by_⟩ : StepD)) := by rw [← hw3]; exact RowV.made w2 _
    have hsl3 := Lib.hid (OwnS.single hro3).reads
    have hown3 := Lib.hid (hown2.out.below hb3.out)
    have hw3s : Hid (w.heap.size ≤ w3.heap.size) := by have h1 := hwz.out; have h2 := s12.out.size; have h3 := hb3.out.size; show _ ≤ _; omega
    clear hro3
    have hNv : N < 256 := hN.out
    go_wp2_with (first
     | (at_builtin
        refine wpList_append_l Tryz.underlying26 infoStep rfl rfl (.tmp 24) (.tmp 27) rfl rfl rfl hown3.out hsl3.out (by have h1 := hN.out; omega) (by have h1 := hN.out; omega) hw3s.out ?_
        intro q4' c4' w4 h4 hg4 hat
        have h4 := Lib.hid h4
        have hg4 := Lib.hid hg4
        have hat := Lib.hid hat))
    clear hw3
    have hq4 : Hid (∀ k, q.map (·.block) = some k → w.heap.size ≤ k ∧ k < wr.heap.size) := fun k e => by
     cases q with
     | none => cases e
     | some a => have h1 := hown.out.far a rfl; have e : a.block = k := by simpa using e
                 omega
    have hb4 : Hid (RStep w w4 g gr) := by
     have h1 := stj.out.trans (s12.out.trans (RStep.of_below hb3.out))
     exact ⟨hg4.out.os.trans h1.os, hg4.out.tape.trans h1.tape, hg4.out.output.trans h1.output, Nat.le_trans h1.size hg4.out.size, fun k hk e1 e2 => (hg4.out.block k (Nat.lt_of_lt_of_le hk h1.size) (fun e => by have h2 := (hq4.out k e.symm).1; omega)).trans (h1.block k hk e1 e2)⟩
    have hr4 : Hid (RR w4 g gr d all tk) := by
     have h1 := hrk.out.below hb3.out
     cases hqb : q.map (·.block) with
     | none => have h2 := hg4.out; rw [hqb] at h2; exact h1.below (grown_belowN h2 (Nat.le_refl _) (fun k e => by cases e))
     | some b => have h2 := hg4.out; rw [hqb] at h2; have h3 := (hq4.out b hqb).1; exact h1.new h2 (by have h4 := hgrs.out; omega) (by have h4 := hgs.out; omega) (fun e => by have h4 := hds.out _ e; omega)
    have hl4 : Hid (ListQ StepR (j + 1) (t.nx 1) (L ++ [(⟨kd, ⟨⟨ti, id⟩, v, s⟩, by_⟩ : StepD)]) tk) := ⟨L, _, tj, rfl, hl.out, hR.out⟩
    clear hR hl
    go_wp2
    go_roundw
    case rel => exact ⟨j + 1, q4', c4', by omega, by go_num, rfl, _, _, tk, h4.out, (by rw [hmean.out]), hl4.out, hb4.out, hr4.out⟩
    case measure => simp [RowKit.intOf]; omega
  · obtain rfl : N = j := by omega
    go_wp2
    go_ret
    obtain ⟨V, L, tj, hown, hmean, hl, hs, hrj⟩ := hst.out
    exact ⟨q, N, c, V, L, tj, rfl, hown, hmean, .inr ⟨by rw [hz.out]; exact hle.out, by rw [hz.out]; exact hl⟩, hs, hrj⟩
set_option maxRecDepth 100000 in
set_option maxHeartbeats 8000000 in
theorem listtxn_rr {w : World} {g gr : Nat} {d : Option Nat} {all : List UInt8} {t : RSt} (h : RR w g gr d all t) (most : Int) (hm0 : 0 ≤ most) (hm1 : most < 256) :
 Calls Tryz.prog 125 #[.pointer (some ⟨g, 0, none⟩), .int .i64 most, .func (.func 126) #[.pointer (some ⟨g, 0, none⟩)] #[]] w (fun e w' => ∃ (q : Option Addr) (m c : Nat) (V : List TxnD) (L : List TxnD) (t' : RSt), e = .returned (.slice q m c) ∧ OwnS 82 w' w.heap.size (.slice q m c) V ∧ V = L ∧ ListW TxnR most t L t' ∧ RStep w w' g gr ∧ RR w' g gr d all t') := by
 have c0 := h.c0
 have hgs := Lib.hid h.lt
 have hgrs := Lib.hid h.ltr
 have hds := Lib.hid h.src
 have hr := Lib.hid h
 obtain ⟨b0, b1⟩ := nm1 t
 obtain ⟨z, hz⟩ : ∃ z, t.nm 1 = z := ⟨_, rfl⟩
 have hu := rr8 h
 rw [hz] at b0 b1 hu
 have hu := Lib.hid hu
 have hz := Lib.hid hz
 have hm0 := Lib.hid hm0
 have hm1 := Lib.hid hm1
 obtain ⟨N, rfl⟩ : ∃ N : Nat, z = N := ⟨z.toNat, by omega⟩
 clear h b0
 go_enter Tryz.func125, Tryz.ntmps125
 go_wp2_with fail
 refine hu.out.mono ?_
 clear c0 hu
 rintro e w1 ⟨rfl, hs, hr1⟩
 have st1 := Lib.hid hs
 have hr1 := Lib.hid hr1
 clear hs
 have e1 : IntKind.i64.wrap (N : Int) = N := IntWalk.i64_in _ (by omega)
 by_cases hgt : most < (N : Int)
 · have dg : decide ((N : Int) > most) = true := decide_eq_true hgt
   obtain ⟨q0, n0, c0', hq⟩ := hr1.out
   have c2 : w1.cell? ⟨g, 2, none⟩ = some (.bool (t.nx 1).b) := hq.row.cell 2
   have f2 : w1.frozen? ⟨g, 2, none⟩ = false := hq.row.free 2
   obtain ⟨u8, hu8⟩ : ∃ y, w1.setCell ⟨g, 2, none⟩ (.bool true) = y := ⟨_, rfl⟩
   have hw8 := hq.wrong
   have hg8 := setCell_grown w1 g 2 (.bool true)
   rw [hu8] at hw8 hg8
   have hw8 := Lib.hid hw8
   have hg8 := Lib.hid hg8
   have hgt := Lib.hid hgt
   clear hq b1
   go_wp2
   go_ret
   exact ⟨none, 0, 0, [], [], _, rfl, OwnS.nil _ _ _, rfl, .inl ⟨by rw [hz.out]; exact hgt.out, rfl, rfl⟩, st1.out.trans (RStep.of_g hg8.out), ⟨q0, n0, c0', hw8.out⟩⟩
 have dg : decide ((N : Int) > most) = false := decide_eq_false hgt
 have hle : Hid ((N : Int) ≤ most) := by show (N : Int) ≤ most; omega
 have hN : Hid (N < 256) := by show N < 256; omega
 clear hgt
 have h0 : Hid (∃ (V : List TxnD) (L : List TxnD) (tj : RSt), OwnS 82 w1 w.heap.size (.slice none 0 0) V ∧ V = L ∧ ListQ TxnR 0 (t.nx 1) L tj ∧ RStep w w1 g gr ∧ RR w1 g gr d all tj) := ⟨[], [], _, OwnS.nil _ _ _, rfl, ⟨rfl, rfl⟩, st1.out, hr1.out⟩
 go_wp2
 clear dg e1 b1
 go_loopw [22, 8] (fun v22 v8 wr => ∃ (j : Nat) (q : Option Addr) (c : Nat), j ≤ N ∧ v22 = .int .i64 j ∧ v8 = .slice q j c ∧ Hid (∃ (V : List TxnD) (L : List TxnD) (tj : RSt), OwnS 82 wr w.heap.size (.slice q j c) V ∧ V = L ∧ ListQ TxnR j (t.nx 1) L tj ∧ RStep w wr g gr ∧ RR wr g gr d all tj)) (fun v22 _ _ => N - (RowKit.intOf v22).toNat)
 case atStart => exact ⟨0, none, 0, Nat.zero_le _, rfl, rfl, h0⟩
 case round =>
  obtain ⟨j, q, c, hj, rfl, rfl, hst⟩ := hrel
  clear h0
  by_cases hlt : j < N
  · obtain ⟨V, L, tj, hown, hmean, hl, hs, hrj⟩ := hst.out
    clear hst
    have i0 : (0 : Int) ≤ j := by omega
    have i1 : (j : Int) < N := by omega
    have hown := Lib.hid hown
    have hmean := Lib.hid hmean
    have hl := Lib.hid hl
    have stj := Lib.hid hs
    have hrj := Lib.hid hrj
    have hwz : Hid (w.heap.size ≤ wr.heap.size) := hs.size
    clear hs
    have hc1 := txn_rr hrj.out
    obtain ⟨x1, hx1⟩ : ∃ y, tj.nm 4 = y := ⟨_, rfl⟩
    obtain ⟨x2, hx2⟩ : ∃ y, (tj.nx 4).nm 8 = y := ⟨_, rfl⟩
    obtain ⟨x3, hx3⟩ : ∃ y, ((tj.nx 4).nx 8).nm 8 = y := ⟨_, rfl⟩
    obtain ⟨x4, hx4⟩ : ∃ y, (((tj.nx 4).nx 8).nx 8).nm 8 = y := ⟨_, rfl⟩
    obtain ⟨x5, hx5⟩ : ∃ y, ((((tj.nx 4).nx 8).nx 8).nx 8).nm 1 = y := ⟨_, rfl⟩
    obtain ⟨tk, htk⟩ : ∃ y, ((((tj.nx 4).nx 8).nx 8).nx 8).nx 1 = y := ⟨_, rfl⟩
    rw [hx1, hx2, hx3, hx4, hx5, htk] at hc1
    have hR : TxnR tj (⟨x1, x2, x3, x4, x5⟩ : TxnD) tk := ⟨by rw [hx1, hx2, hx3, hx4, hx5], htk.symm⟩
    have hc1 := Lib.hid hc1
    clear hx1 hx2 hx3 hx4 hx5 htk
    go_wp2_with fail
    refine hc1.out.mono ?_
    clear hc1
    rintro e w2 ⟨rfl, hs, hrk⟩
    have hR := Lib.hid hR
    have s12 := Lib.hid hs
    have hrk := Lib.hid hrk
    clear hs
    have hown2 : Hid (OwnS 82 w2 w.heap.size (.slice q j c) V) := hown.out.kept (fun a ha => s12.out.block _ (hown.out.far a ha).2 (by have h1 := (hown.out.far a ha).1; have h2 := hgs.out; omega) (by have h1 := (hown.out.far a ha).1; have h2 := hgrs.out; omega))
    obtain ⟨w3, hw3⟩ : ∃ y, w2.alloc (.cells #[.int .i64 x1, .int .u64 x2, .int .u64 x3, .int .u64 x4, .int .i64 x5] 82) = y := ⟨_, rfl⟩
    have hb3 : Hid (Below w2.heap.size w2 w3) := by rw [← hw3]; exact (Below.refl _ _).alloc (Nat.le_refl _) _
    have hro3 : RowV 82 w3 w2.heap.size (Cel.cells (⟨x1, x2, x3, x4, x5⟩ : TxnD)) := by rw [← hw3]; exact RowV.made w2 _
    have hsl3 := Lib.hid (OwnS.single hro3).reads
    have hown3 := Lib.hid (hown2.out.below hb3.out)
    have hw3s : Hid (w.heap.size ≤ w3.heap.size) := by have h1 := hwz.out; have h2 := s12.out.size; have h3 := hb3.out.size; show _ ≤ _; omega
    clear hro3
    have hNv : N < 256 := hN.out
    go_wp2_with (first
     | (at_builtin
        refine wpList_append_l Tryz.underlying27 infoTxn rfl rfl (.tmp 24) (.tmp 27) rfl rfl rfl hown3.out hsl3.out (by have h1 := hN.out; omega) (by have h1 := hN.out; omega) hw3s.out ?_
        intro q4' c4' w4 h4 hg4 hat
        have h4 := Lib.hid h4
        have hg4 := Lib.hid hg4
        have hat := Lib.hid hat))
    clear hw3
    have hq4 : Hid (∀ k, q.map (·.block) = some k → w.heap.size ≤ k ∧ k < wr.heap.size) := fun k e => by
     cases q with
     | none => cases e
     | some a => have h1 := hown.out.far a rfl; have e : a.block = k := by simpa using e
                 omega
    have hb4 : Hid (RStep w w4 g gr) := by
     have h1 := stj.out.trans (s12.out.trans (RStep.of_below hb3.out))
     exact ⟨hg4.out.os.trans h1.os, hg4.out.tape.trans h1.tape, hg4.out.output.trans h1.output, Nat.le_trans h1.size hg4.out.size, fun k hk e1 e2 => (hg4.out.block k (Nat.lt_of_lt_of_le hk h1.size) (fun e => by have h2 := (hq4.out k e.symm).1; omega)).trans (h1.block k hk e1 e2)⟩
    have hr4 : Hid (RR w4 g gr d all tk) := by
     have h1 := hrk.out.below hb3.out
     cases hqb : q.map (·.block) with
     | none => have h2 := hg4.out; rw [hqb] at h2; exact h1.below (grown_belowN h2 (Nat.le_refl _) (fun k e => by cases e))
     | some b => have h2 := hg4.out; rw [hqb] at h2; have h3 := (hq4.out b hqb).1; exact h1.new h2 (by have h4 := hgrs.out; omega) (by have h4 := hgs.out; omega) (fun e => by have h4 := hds.out _ e; omega)
    have hl4 : Hid (ListQ TxnR (j + 1) (t.nx 1) (L ++ [(⟨x1, x2, x3, x4, x5⟩ : TxnD)]) tk) := ⟨L, _, tj, rfl, hl.out, hR.out⟩
    clear hR hl
    go_wp2
    go_roundw
    case rel => exact ⟨j + 1, q4', c4', by omega, by go_num, rfl, _, _, tk, h4.out, (by rw [hmean.out]), hl4.out, hb4.out, hr4.out⟩
    case measure => simp [RowKit.intOf]; omega
  · obtain rfl : N = j := by omega
    go_wp2
    go_ret
    obtain ⟨V, L, tj, hown, hmean, hl, hs, hrj⟩ := hst.out
    exact ⟨q, N, c, V, L, tj, rfl, hown, hmean, .inr ⟨by rw [hz.out]; exact hle.out, by rw [hz.out]; exact hl⟩, hs, hrj⟩
set_option maxRecDepth 100000 in
set_option maxHeartbeats 8000000 in
theorem listpg_rr {w : World} {g gr : Nat} {d : Option Nat} {all : List UInt8} {t : RSt} (h : RR w g gr d all t) (most : Int) (hm0 : 0 ≤ most) (hm1 : most < 256) :
 Calls Tryz.prog 127 #[.pointer (some ⟨g, 0, none⟩), .int .i64 most, .func (.func 128) #[.pointer (some ⟨g, 0, none⟩)] #[]] w (fun e w' => ∃ (q : Option Addr) (m c : Nat) (V : List PgD) (L : List PgD) (t' : RSt), e = .returned (.slice q m c) ∧ OwnS 85 w' w.heap.size (.slice q m c) V ∧ V = L ∧ ListW PgR most t L t' ∧ RStep w w' g gr ∧ RR w' g gr d all t') := by
 have c0 := h.c0
 have hgs := Lib.hid h.lt
 have hgrs := Lib.hid h.ltr
 have hds := Lib.hid h.src
 have hr := Lib.hid h
 obtain ⟨b0, b1⟩ := nm1 t
 obtain ⟨z, hz⟩ : ∃ z, t.nm 1 = z := ⟨_, rfl⟩
 have hu := rr8 h
 rw [hz] at b0 b1 hu
 have hu := Lib.hid hu
 have hz := Lib.hid hz
 have hm0 := Lib.hid hm0
 have hm1 := Lib.hid hm1
 obtain ⟨N, rfl⟩ : ∃ N : Nat, z = N := ⟨z.toNat, by omega⟩
 clear h b0
 go_enter Tryz.func127, Tryz.ntmps127
 go_wp2_with fail
 refine hu.out.mono ?_
 clear c0 hu
 rintro e w1 ⟨rfl, hs, hr1⟩
 have st1 := Lib.hid hs
 have hr1 := Lib.hid hr1
 clear hs
 have e1 : IntKind.i64.wrap (N : Int) = N := IntWalk.i64_in _ (by omega)
 by_cases hgt : most < (N : Int)
 · have dg : decide ((N : Int) > most) = true := decide_eq_true hgt
   obtain ⟨q0, n0, c0', hq⟩ := hr1.out
   have c2 : w1.cell? ⟨g, 2, none⟩ = some (.bool (t.nx 1).b) := hq.row.cell 2
   have f2 : w1.frozen? ⟨g, 2, none⟩ = false := hq.row.free 2
   obtain ⟨u8, hu8⟩ : ∃ y, w1.setCell ⟨g, 2, none⟩ (.bool true) = y := ⟨_, rfl⟩
   have hw8 := hq.wrong
   have hg8 := setCell_grown w1 g 2 (.bool true)
   rw [hu8] at hw8 hg8
   have hw8 := Lib.hid hw8
   have hg8 := Lib.hid hg8
   have hgt := Lib.hid hgt
   clear hq b1
   go_wp2
   go_ret
   exact ⟨none, 0, 0, [], [], _, rfl, OwnS.nil _ _ _, rfl, .inl ⟨by rw [hz.out]; exact hgt.out, rfl, rfl⟩, st1.out.trans (RStep.of_g hg8.out), ⟨q0, n0, c0', hw8.out⟩⟩
 have dg : decide ((N : Int) > most) = false := decide_eq_false hgt
 have hle : Hid ((N : Int) ≤ most) := by show (N : Int) ≤ most; omega
 have hN : Hid (N < 256) := by show N < 256; omega
 clear hgt
 have h0 : Hid (∃ (V : List PgD) (L : List PgD) (tj : RSt), OwnS 85 w1 w.heap.size (.slice none 0 0) V ∧ V = L ∧ ListQ PgR 0 (t.nx 1) L tj ∧ RStep w w1 g gr ∧ RR w1 g gr d all tj) := ⟨[], [], _, OwnS.nil _ _ _, rfl, ⟨rfl, rfl⟩, st1.out, hr1.out⟩
 go_wp2
 clear dg e1 b1
 go_loopw [22, 8] (fun v22 v8 wr => ∃ (j : Nat) (q : Option Addr) (c : Nat), j ≤ N ∧ v22 = .int .i64 j ∧ v8 = .slice q j c ∧ Hid (∃ (V : List PgD) (L : List PgD) (tj : RSt), OwnS 85 wr w.heap.size (.slice q j c) V ∧ V = L ∧ ListQ PgR j (t.nx 1) L tj ∧ RStep w wr g gr ∧ RR wr g gr d all tj)) (fun v22 _ _ => N - (RowKit.intOf v22).toNat)
 case atStart => exact ⟨0, none, 0, Nat.zero_le _, rfl, rfl, h0⟩
 case round =>
  obtain ⟨j, q, c, hj, rfl, rfl, hst⟩ := hrel
  clear h0
  by_cases hlt : j < N
  · obtain ⟨V, L, tj, hown, hmean, hl, hs, hrj⟩ := hst.out
    clear hst
    have i0 : (0 : Int) ≤ j := by omega
    have i1 : (j : Int) < N := by omega
    have hown := Lib.hid hown
    have hmean := Lib.hid hmean
    have hl := Lib.hid hl
    have stj := Lib.hid hs
    have hrj := Lib.hid hrj
    have hwz : Hid (w.heap.size ≤ wr.heap.size) := hs.size
    clear hs
    have hc1 := dirty_rr hrj.out
    obtain ⟨x1, hx1⟩ : ∃ y, tj.nm 1 = y := ⟨_, rfl⟩
    obtain ⟨x2, hx2⟩ : ∃ y, (tj.nx 1).nm 8 = y := ⟨_, rfl⟩
    obtain ⟨tk, htk⟩ : ∃ y, (tj.nx 1).nx 8 = y := ⟨_, rfl⟩
    rw [hx1, hx2, htk] at hc1
    have hR : PgR tj (⟨x1, x2⟩ : PgD) tk := ⟨by rw [hx1, hx2], htk.symm⟩
    have hc1 := Lib.hid hc1
    clear hx1 hx2 htk
    go_wp2_with fail
    refine hc1.out.mono ?_
    clear hc1
    rintro e w2 ⟨rfl, hs, hrk⟩
    have hR := Lib.hid hR
    have s12 := Lib.hid hs
    have hrk := Lib.hid hrk
    clear hs
    have hown2 : Hid (OwnS 85 w2 w.heap.size (.slice q j c) V) := hown.out.kept (fun a ha => s12.out.block _ (hown.out.far a ha).2 (by have h1 := (hown.out.far a ha).1; have h2 := hgs.out; omega) (by have h1 := (hown.out.far a ha).1; have h2 := hgrs.out; omega))
    obtain ⟨w3, hw3⟩ : ∃ y, w2.alloc (.cells #[.int .i64 x1, .int .u64 x2] 85) = y := ⟨_, rfl⟩
    have hb3 : Hid (Below w2.heap.size w2 w3) := by rw [← hw3]; exact (Below.refl _ _).alloc (Nat.le_refl _) _
    have hro3 : RowV 85 w3 w2.heap.size (Cel.cells (⟨x1, x2⟩ : PgD)) := by rw [← hw3]; exact RowV.made w2 _
    have hsl3 := Lib.hid (OwnS.single hro3).reads
    have hown3 := Lib.hid (hown2.out.below hb3.out)
    have hw3s : Hid (w.heap.size ≤ w3.heap.size) := by have h1 := hwz.out; have h2 := s12.out.size; have h3 := hb3.out.size; show _ ≤ _; omega
    clear hro3
    have hNv : N < 256 := hN.out
    go_wp2_with (first
     | (at_builtin
        refine wpList_append_l Tryz.underlying28 infoPg rfl rfl (.tmp 24) (.tmp 27) rfl rfl rfl hown3.out hsl3.out (by have h1 := hN.out; omega) (by have h1 := hN.out; omega) hw3s.out ?_
        intro q4' c4' w4 h4 hg4 hat
        have h4 := Lib.hid h4
        have hg4 := Lib.hid hg4
        have hat := Lib.hid hat))
    clear hw3
    have hq4 : Hid (∀ k, q.map (·.block) = some k → w.heap.size ≤ k ∧ k < wr.heap.size) := fun k e => by
     cases q with
     | none => cases e
     | some a => have h1 := hown.out.far a rfl; have e : a.block = k := by simpa using e
                 omega
    have hb4 : Hid (RStep w w4 g gr) := by
     have h1 := stj.out.trans (s12.out.trans (RStep.of_below hb3.out))
     exact ⟨hg4.out.os.trans h1.os, hg4.out.tape.trans h1.tape, hg4.out.output.trans h1.output, Nat.le_trans h1.size hg4.out.size, fun k hk e1 e2 => (hg4.out.block k (Nat.lt_of_lt_of_le hk h1.size) (fun e => by have h2 := (hq4.out k e.symm).1; omega)).trans (h1.block k hk e1 e2)⟩
    have hr4 : Hid (RR w4 g gr d all tk) := by
     have h1 := hrk.out.below hb3.out
     cases hqb : q.map (·.block) with
     | none => have h2 := hg4.out; rw [hqb] at h2; exact h1.below (grown_belowN h2 (Nat.le_refl _) (fun k e => by cases e))
     | some b => have h2 := hg4.out; rw [hqb] at h2; have h3 := (hq4.out b hqb).1; exact h1.new h2 (by have h4 := hgrs.out; omega) (by have h4 := hgs.out; omega) (fun e => by have h4 := hds.out _ e; omega)
    have hl4 : Hid (ListQ PgR (j + 1) (t.nx 1) (L ++ [(⟨x1, x2⟩ : PgD)]) tk) := ⟨L, _, tj, rfl, hl.out, hR.out⟩
    clear hR hl
    go_wp2
    go_roundw
    case rel => exact ⟨j + 1, q4', c4', by omega, by go_num, rfl, _, _, tk, h4.out, (by rw [hmean.out]), hl4.out, hb4.out, hr4.out⟩
    case measure => simp [RowKit.intOf]; omega
  · obtain rfl : N = j := by omega
    go_wp2
    go_ret
    obtain ⟨V, L, tj, hown, hmean, hl, hs, hrj⟩ := hst.out
    exact ⟨q, N, c, V, L, tj, rfl, hown, hmean, .inr ⟨by rw [hz.out]; exact hle.out, by rw [hz.out]; exact hl⟩, hs, hrj⟩
end Go.Proofs.YtocekhckmpkbmaaGreat
