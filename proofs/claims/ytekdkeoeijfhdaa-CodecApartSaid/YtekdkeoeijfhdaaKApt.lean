/- CodecApart: for every two contents the law returns true, and its arguments read as they did. No condition. -/
import Derived.Test.YtekdkeoeijfhdaaKShort
import Derived.Deep.DeepCutAuto
import Derived.Test.YtekdkeoeijfhdaaFour
namespace Go.Proofs.Ytekdkeoeijfhdaa
open Go.ChangeShapes Go.WideShapes Go.ChangeAt Go.RowKit

theorem bytesOf_nats (l : List UInt8) : Lib.bytesOf (l.map fun x => (x.toNat : Int)) = l := by
  unfold Lib.bytesOf
  rw [List.map_map]
  conv => rhs; rw [← List.map_id l]
  refine List.map_congr_left (fun x _ => ?_)
  simp
theorem bytesIn {w : World} {q : Option Addr} {n c : Nat} {l : List UInt8} (h : Lib.HoldsBytes w (.slice q n c) l) : Lib.BytesIn w q n (l.map fun x => (x.toNat : Int)) := by
  obtain ⟨p, cap, he, h1, h2⟩ := h
  cases he
  intro hn
  cases q with
  | none => rw [h1 rfl] at hn; exact absurd hn (Nat.lt_irrefl 0)
  | some a =>
    have hx : ∀ i (hi : i < l.length), w.cell? (a.add i) = some (.int .u8 ((l[i]'hi).toNat : Int)) := fun i hi => h2 a rfl i _ (List.getElem?_eq_getElem hi)
    refine Lib.BytesIn.of_cells (fun i hi => ?_) hn
    rw [hx i hi, List.getD_eq_getElem?_getD, List.getElem?_map, List.getElem?_eq_getElem hi]
    rfl
theorem not_front {w : World} {q1 q2 : Option Addr} {n1 c1 n2 c2 : Nat} {l1 l2 : List UInt8} (h1 : Lib.HoldsBytes w (.slice q1 n1 c1) l1) (h2 : Lib.HoldsBytes w (.slice q2 n2 c2) l2) (hc : n1 ≤ c1) (hne : ∀ r, l1 ≠ l2 ++ r) :
    Calls Try.prog 23 #[.slice q1 n1 c1, .slice q2 n2 c2] w (fun e w' => e = .returned (.bool false) ∧ w' = w) := by
  have hl1 : n1 = l1.length := holds_len h1
  have hl2 : n2 = l2.length := holds_len h2
  refine (Try.bytes_HasPrefix_all q1 q2 n1 c1 n2 c2 _ _ w (by rw [List.length_map]; exact hl1.symm) (by rw [List.length_map]; exact hl2.symm) hc (bytesIn h1) (bytesIn h2)).mono ?_
  rintro e w' ⟨rfl, rfl⟩
  refine ⟨?_, rfl⟩
  have hf : Lib.hasPrefix l1 l2 = false := by
    cases hx : Lib.hasPrefix l1 l2 with
    | false => rfl
    | true =>
      unfold Lib.hasPrefix at hx
      obtain ⟨r, hr⟩ := List.isPrefixOf_iff_prefix.1 hx
      exact absurd hr.symm (hne r)
  rw [bytesOf_nats, bytesOf_nats, hf]

def putO (d : Option Tmp) (x : Option Value) (a : Act) : Act := match x with | none => a | some v => a.put d v
theorem putO_put {d d' : Nat} (h : d ≠ d') (x : Option Value) (a : Act) (v : Value) : (putO (some d) x a).put (some d') v = putO (some d) x (a.put (some d') v) := by
  cases x with
  | none => rfl
  | some u =>
    show (a.put (some d) u).put (some d') v = (a.put (some d') v).put (some d) u
    unfold Act.put
    simp only
    congr 1
    exact Array.setIfInBounds_comm _ _ h
def boxC : List Value := [.int .i64 0, .slice none 0 0, .slice none 0 0]
def CnV (v : World) (X : Value) (c : ContD) : Prop := ∃ k rq rn rc kq kn kc, X = .agg #[.int .i64 k, .slice rq rn rc, .slice kq kn kc] ∧ ContOn v k rq rn rc kq kn kc c
def BxV (B : Nat) (v : World) (X : Value) : Prop := ∃ b, X = .pointer (some ⟨b, 0, none⟩) ∧ B ≤ b ∧ b < v.heap.size ∧ RowV 27 v b boxC
theorem CnV.below {v v' : World} {X : Value} {c : ContD} (h : CnV v X c) (hb : Below v.heap.size v v') : CnV v' X c := by
  obtain ⟨k, rq, rn, rc, kq, kn, kc, e, h⟩ := h
  exact ⟨k, rq, rn, rc, kq, kn, kc, e, h.below hb (Nat.le_refl _)⟩
theorem BxV.below {B : Nat} {v v' : World} {X : Value} (h : BxV B v X) (hb : Below v.heap.size v v') : BxV B v' X := by
  obtain ⟨b, e, h1, h2, h3⟩ := h
  exact ⟨b, e, h1, Nat.lt_of_lt_of_le h2 hb.size, h3.below hb⟩
structure ApK (w1 : World) (y1 y2 : ContD) (x y z u : Option Value) (v : World) : Prop where
  b : Below w1.heap.size w1 v
  cx : ∀ X, x = some X → CnV v X y1
  cy : ∀ X, y = some X → CnV v X y2
  bz : ∀ X, z = some X → BxV w1.heap.size v X
  bu : ∀ X, u = some X → BxV w1.heap.size v X
  ne : ∀ X Y, z = some X → u = some Y → X ≠ Y
theorem add_block {a : Addr} {j b : Nat} (h : (a.add j).block = b) : a.block = b := by
  rw [← h]
  unfold Addr.add
  split <;> rfl
theorem no_row {w : World} {b : Nat} {a : Addr} {t1 : Int} {q1 q2 : Option Addr} {n1 c1 n2 c2 : Nat} {s : ByteArray} (hb : RowV 27 w b [.int .i64 t1, .slice q1 n1 c1, .slice q2 n2 c2]) (ha : a.block = b) : ¬ w.cell? (a.add 3) = some (.string s) := by
  intro h
  obtain ⟨b', o, r⟩ := a
  obtain rfl : b' = b := ha
  rw [show ((⟨b', o, r⟩ : Addr).add 3) = ⟨b', o + 3, none⟩ from rfl, hb.cell] at h
  simp at h
theorem no_kid {w : World} {b : Nat} {a : Addr} {t1 x : Int} {q1 q2 : Option Addr} {n1 c1 n2 c2 : Nat} (hb : RowV 27 w b [.int .i64 t1, .slice q1 n1 c1, .slice q2 n2 c2]) (ha : a.block = b) : ¬ w.cell? (a.add 1) = some (.int .u16 x) := by
  intro h
  obtain ⟨b', o, r⟩ := a
  obtain rfl : b' = b := ha
  rw [show ((⟨b', o, r⟩ : Addr).add 1) = ⟨b', o + 1, none⟩ from rfl, hb.cell] at h
  match o, h with
  | 0, h => simp at h
  | 1, h => simp at h
  | o + 2, h => simp at h
/-- a content's cells lie in no box of contents -/
theorem ContOn.store {w w' : World} {k : Int} {rq kq : Option Addr} {rn rc kn kc b : Nat} {c : ContD} {t1 : Int} {q1 q2 : Option Addr} {n1 c1 n2 c2 : Nat} (h : ContOn w k rq rn rc kq kn kc c) (hb : RowV 27 w b [.int .i64 t1, .slice q1 n1 c1, .slice q2 n2 c2]) (hg : w.grownBy w' (some b)) : ContOn w' k rq rn rc kq kn kc c := by
  refine ⟨h.kind, ⟨h.rows.len, h.rows.le, h.rows.cap, h.rows.nil, fun i r hi => ?_, h.rows.ok⟩, ⟨h.kids.len, h.kids.le, h.kids.cap, h.kids.nil, fun i r hi => ?_, h.kids.ok⟩⟩
  · obtain ⟨a, ha, hc⟩ := h.rows.get i r hi
    refine ⟨a, ha, fun j x hj => ?_⟩
    by_cases hne : ((a.add (i * 4)).add j).block = b
    · exact absurd (hc 3 _ rfl) (no_row hb (add_block hne))
    · exact Gr.cell hg hne (hc j x hj)
  · obtain ⟨a, ha, hc⟩ := h.kids.get i r hi
    refine ⟨a, ha, fun j x hj => ?_⟩
    by_cases hne : ((a.add (i * 3)).add j).block = b
    · exact absurd (hc 1 _ rfl) (no_kid hb (add_block hne))
    · exact Gr.cell hg hne (hc j x hj)

set_option maxRecDepth 100000 in
set_option maxHeartbeats 4000000 in
theorem apart_law (k1 : Int) (rq1 : Option Addr) (rn1 rc1 : Nat) (kq1 : Option Addr) (kn1 kc1 : Nat) (x1 : ContD) (k2 : Int) (rq2 : Option Addr) (rn2 rc2 : Nat) (kq2 : Option Addr) (kn2 kc2 : Nat) (x2 : ContD) (w : World) (h1 : ContOn w k1 rq1 rn1 rc1 kq1 kn1 kc1 x1) (h2 : ContOn w k2 rq2 rn2 rc2 kq2 kn2 kc2 x2) :
    Calls Try.prog 6 #[.agg #[.int .i64 k1, .slice rq1 rn1 rc1, .slice kq1 kn1 kc1], .agg #[.int .i64 k2, .slice rq2 rn2 rc2, .slice kq2 kn2 kc2]] w (fun e w' => e = .returned (.bool true) ∧ Below w.heap.size w w') := by
  obtain ⟨W, hW⟩ : ∃ W, (w.alloc (.cells #[.int .i64 k1, .slice rq1 rn1 rc1, .slice kq1 kn1 kc1] 27)).alloc (.cells #[.int .i64 k2, .slice rq2 rn2 rc2, .slice kq2 kn2 kc2] 27) = W := ⟨_, rfl⟩
  have hbx := Lib.hid (two_boxes (xs := [.int .i64 k1, .slice rq1 rn1 rc1, .slice kq1 kn1 kc1]) (ys := [.int .i64 k2, .slice rq2 rn2 rc2, .slice kq2 kn2 kc2]) hW)
  have g1 := Lib.hid (h1.below hbx.out.1 (Nat.le_refl _))
  have g2 := Lib.hid (h2.below hbx.out.1 (Nat.le_refl _))
  clear h1 h2
  go_enter Try.func6, Try.ntmps6
  go_wp2_with fail
  clear hW
  refine (wakes_any _).mono ?_
  rintro e w1 ⟨rfl, hb1⟩
  have hd1 := Lib.hid (hbx.out.1.trans (hb1.mono hbx.out.1.size))
  have bxA := Lib.hid (hbx.out.2.1.below hb1 (Nat.le_refl _))
  have bxB := Lib.hid (hbx.out.2.2.1.below hb1 (Nat.le_refl _))
  have a1 := Lib.hid (g1.out.below hb1 (Nat.le_refl _))
  have a2 := Lib.hid (g2.out.below hb1 (Nat.le_refl _))
  clear hb1 g1 g2 hbx
  go_upto_region 3 with fail
  go_cut [5, 6] (fun v5 v6 wx => ∃ (b5 b6 : Nat) (y1 y2 : ContD) (k3 : Int) (rq3 : Option Addr) (rn3 rc3 : Nat) (kq3 : Option Addr) (kn3 kc3 : Nat) (k4 : Int) (rq4 : Option Addr) (rn4 rc4 : Nat) (kq4 : Option Addr) (kn4 kc4 : Nat), v5 = .pointer (some ⟨b5, 0, none⟩) ∧ v6 = .pointer (some ⟨b6, 0, none⟩) ∧ Hid (Below w1.heap.size w1 wx) ∧ Hid (Boxed wx b5 [.int .i64 k3, .slice rq3 rn3 rc3, .slice kq3 kn3 kc3]) ∧ Hid (Boxed wx b6 [.int .i64 k4, .slice rq4 rn4 rc4, .slice kq4 kn4 kc4]) ∧ Hid (ContOn wx k3 rq3 rn3 rc3 kq3 kn3 kc3 y1) ∧ Hid (ContOn wx k4 rq4 rn4 rc4 kq4 kn4 kc4 y2))
  case first =>
    have hsA := sizeCont (.int .i64 k1) (.slice rq1 rn1 rc1) (.slice kq1 kn1 kc1)
    have hsB := sizeCont (.int .i64 k2) (.slice rq2 rn2 rc2) (.slice kq2 kn2 kc2)
    refine wp_region_held (S := fun u => Below w1.heap.size w1 u) (by kernel_rfl) ?_
    change wpAnyH _ _ _ _ _ _ _ _ (World.drew w1)
    have hS : Below w1.heap.size w1 w1.drew := below_drew _
    refine held_take (i := 0) (dst := some 13) rfl rfl (by kernel_rfl) (by kernel_rfl) (by kernel_rfl) (fun _ _ _ h => h) (y_load_agg 27 (.tmp 2) rfl rfl rfl (fun u hu => run_loadVar_at Try.underlying27 rfl hsA _ (bxA.out.below hu (Nat.le_refl _)).all)) hS ?_
    go_frame
    refine held_take (i := 2) (dst := some 15) rfl rfl (by kernel_rfl) (by kernel_rfl) (by kernel_rfl) (fun _ _ _ h => h) (y_load_agg 27 (.tmp 3) rfl rfl rfl (fun u hu => run_loadVar_at Try.underlying27 rfl hsB _ (bxB.out.below hu (Nat.le_refl _)).all)) hS ?_
    go_frame
    refine held_four (i := 1) (j := 3) (p := 4) (q := 5) (fuel := 2) (L := fun bi bj bp bq => #[true, bi, true, bj, bp, bq, false, false]) (A := fun x y z u => putO (some 14) x (putO (some 16) y (putO (some 5) z (putO (some 6) u _)))) (K := ApK w1 (fewC x1) (fewC x2)) rfl rfl rfl rfl (fun _ _ _ => rfl) (fun _ _ _ => rfl) (fun _ _ _ => rfl) (fun _ _ _ => rfl)
      (fun x y z v => rfl) (fun x y z v => putO_put (by decide) x _ v) (fun x y z v => (putO_put (by decide) x _ v).trans (congrArg _ (putO_put (by decide) y _ v))) (fun x y z v => (putO_put (by decide) x _ v).trans (congrArg _ ((putO_put (by decide) y _ v).trans (congrArg _ (putO_put (by decide) z _ v)))))
      (fun _ _ _ _ => rfl) (fun _ _ _ _ => rfl) (fun _ _ _ _ => rfl) (fun _ _ _ _ => rfl)
      (fun bi bj bp bq h1 h2 => by cases bi <;> cases bj <;> cases bp <;> cases bq <;> first | (exact absurd (h1 rfl) (by decide)) | (exact absurd h2 (by decide)) | kernel_rfl)
      ?si ?sj ?sp ?sq ?ends 4 none none none none w1.drew (fun h => h) rfl ⟨hS, fun _ h => (by cases h), fun _ h => (by cases h), fun _ h => (by cases h), fun _ h => (by cases h), fun _ _ h => (by cases h)⟩
    case si =>
      intro z u v hk
      refine ⟨_, _, _, ?_, few_any k1 rq1 rn1 rc1 kq1 kn1 kc1 x1 v (a1.out.below hk.b (Nat.le_refl _)), ?_⟩
      · cases z <;> cases u <;> (simp only [putO]; go_simp)
      · rintro e w' ⟨k, rq, rn, rc, kq, kn, kc, rfl, hc, hb⟩
        exact ⟨_, rfl, hk.b.trans (hb.mono hk.b.size), ⟨hk.b.trans (hb.mono hk.b.size), fun X hX => (by cases hX; exact ⟨k, rq, rn, rc, kq, kn, kc, rfl, hc⟩), fun X hX => (hk.cy X hX).below hb, fun X hX => (hk.bz X hX).below hb, fun X hX => (hk.bu X hX).below hb, hk.ne⟩⟩
    case sj =>
      intro x z u v hk
      refine ⟨_, _, _, ?_, few_any k2 rq2 rn2 rc2 kq2 kn2 kc2 x2 v (a2.out.below hk.b (Nat.le_refl _)), ?_⟩
      · cases z <;> cases u <;> (simp only [putO]; go_simp)
      · rintro e w' ⟨k, rq, rn, rc, kq, kn, kc, rfl, hc, hb⟩
        exact ⟨_, rfl, hk.b.trans (hb.mono hk.b.size), ⟨hk.b.trans (hb.mono hk.b.size), fun X hX => (hk.cx X hX).below hb, fun X hX => (by cases hX; exact ⟨k, rq, rn, rc, kq, kn, kc, rfl, hc⟩), fun X hX => (hk.bz X hX).below hb, fun X hX => (hk.bu X hX).below hb, hk.ne⟩⟩
    case sp =>
      intro x y u v hk
      have hb : Below v.heap.size v (v.alloc (.cells boxC.toArray 27)) := (Below.refl _ _).alloc (Nat.le_refl _) _
      have hd := hk.b.alloc hk.b.size (.cells boxC.toArray 27)
      refine ⟨.pointer (some ⟨v.heap.size, 0, none⟩), v.alloc (.cells boxC.toArray 27), ?_, hd, hd, fun X hX => (hk.cx X hX).below hb, fun X hX => (hk.cy X hX).below hb, fun X hX => ?_, fun X hX => (hk.bu X hX).below hb, fun X Y hX hY => ?_⟩
      · cases x <;> cases y <;> cases u <;> (simp only [putO, boxC]; go_simp)
      · cases hX
        exact ⟨_, rfl, hk.b.size, by simp, RowV.made v boxC⟩
      · cases hX
        obtain ⟨b, rfl, _, h2, _⟩ := hk.bu Y hY
        intro e
        simp at e
        try omega
    case sq =>
      intro x y z v hk
      have hb : Below v.heap.size v (v.alloc (.cells boxC.toArray 27)) := (Below.refl _ _).alloc (Nat.le_refl _) _
      have hd := hk.b.alloc hk.b.size (.cells boxC.toArray 27)
      refine ⟨.pointer (some ⟨v.heap.size, 0, none⟩), v.alloc (.cells boxC.toArray 27), ?_, hd, hd, fun X hX => (hk.cx X hX).below hb, fun X hX => (hk.cy X hX).below hb, fun X hX => (hk.bz X hX).below hb, fun X hX => ?_, fun X Y hX hY => ?_⟩
      · cases x <;> cases y <;> cases z <;> (simp only [putO, boxC]; go_simp)
      · cases hX
        exact ⟨_, rfl, hk.b.size, by simp, RowV.made v boxC⟩
      · cases hY
        obtain ⟨b, rfl, _, h2, _⟩ := hk.bz X hX
        intro e
        simp at e
        try omega
    case ends =>
      intro x y z u v hk
      obtain ⟨k3, rq3, rn3, rc3, kq3, kn3, kc3, rfl, o1⟩ := hk.cx _ rfl
      obtain ⟨k4, rq4, rn4, rc4, kq4, kn4, kc4, rfl, o2⟩ := hk.cy _ rfl
      obtain ⟨b5, rfl, h51, h52, r5⟩ := hk.bz _ rfl
      obtain ⟨b6, rfl, h61, h62, r6⟩ := hk.bu _ rfl
      have hne : b5 ≠ b6 := fun e => hk.ne _ _ rfl rfl (by rw [e])
      obtain ⟨v', hrun, s5, g5⟩ := run_storeVar_at (P := Try.prog) (ty := 27) (vs := [.int .i64 k3, .slice rq3 rn3 rc3, .slice kq3 kn3 kc3]) r5 (sizeCont _ _ _) (Nat.le_refl _) (cont_one _ _ _ _ _ _ _)
      have d5 := Gr.below g5 hk.b h51
      have r6' := r6.gr g5 (fun e => hne e.symm)
      obtain ⟨v2, hrun2, s6, g6⟩ := run_storeVar_at (P := Try.prog) (ty := 27) (vs := [.int .i64 k4, .slice rq4 rn4 rc4, .slice kq4 kn4 kc4]) r6' (sizeCont _ _ _) (Nat.le_refl _) (cont_one _ _ _ _ _ _ _)
      have d6 := Gr.below g6 d5 h61
      refine held_skip (i := 6) (dst := none) rfl rfl (by kernel_rfl) rfl (run_store_op (x := .tmp 5) (y := .tmp 14) rfl rfl rfl hrun) d5 ?_
      refine held_skip (i := 7) (dst := none) rfl rfl (by kernel_rfl) rfl (run_store_op (x := .tmp 6) (y := .tmp 16) rfl rfl rfl hrun2) d6 ?_
      refine wpAnyH_done (by kernel_rfl) ?_ _
      simp only [putO]
      go_frame
      have t5 : RowV 27 v2 b5 [.int .i64 k3, .slice rq3 rn3 rc3, .slice kq3 kn3 kc3] := RowV.gr s5 g6 hne
      have t6 : RowV 27 v2 b6 [.int .i64 k4, .slice rq4 rn4 rc4, .slice kq4 kn4 kc4] := s6
      have hfin : Hid (Below w1.heap.size w1 v2) ∧ Hid (Boxed v2 b5 [.int .i64 k3, .slice rq3 rn3 rc3, .slice kq3 kn3 kc3]) ∧ Hid (Boxed v2 b6 [.int .i64 k4, .slice rq4 rn4 rc4, .slice kq4 kn4 kc4]) ∧ Hid (ContOn v2 k3 rq3 rn3 rc3 kq3 kn3 kc3 (fewC x1)) ∧ Hid (ContOn v2 k4 rq4 rn4 rc4 kq4 kn4 kc4 (fewC x2)) :=
        ⟨d6, t5.part (pre := []) (rest := []) (by simp) rfl, t6.part (pre := []) (rest := []) (by simp) rfl, (o1.store r5 g5).store r6' g6, (o2.store r5 g5).store r6' g6⟩
      clear hrun hrun2 s5 s6 g5 g6 r5 r6 r6' t5 t6 o1 o2 hk d5 d6
      go_wp2_with fail
      go_meet
      exact ⟨b5, b6, fewC x1, fewC x2, k3, rq3, rn3, rc3, kq3, kn3, kc3, k4, rq4, rn4, rc4, kq4, kn4, kc4, rfl, rfl, hfin⟩
  case rest =>
    obtain ⟨b5, b6, y1, y2, k3, rq3, rn3, rc3, kq3, kn3, kc3, k4, rq4, rn4, rc4, kq4, kn4, kc4, rfl, rfl, hb, u5, u6, o1, o2⟩ := hcut
    have hs3 := sizeCont (.int .i64 k3) (.slice rq3 rn3 rc3) (.slice kq3 kn3 kc3)
    have hs4 := sizeCont (.int .i64 k4) (.slice rq4 rn4 rc4) (.slice kq4 kn4 kc4)
    clear a1 a2 bxA bxB
    have hdc := Lib.hid (hd1.out.trans (hb.out.mono hd1.out.size))
    clear hd1 hb
    go_wp2_with (first
      | (with_reducible refine wpList_load_at rfl 27 (.tmp 5) rfl Try.underlying27 rfl hs3 rfl u5.out.all ?_))
    refine (content_any k3 rq3 rn3 rc3 kq3 kn3 kc3 y1 wc o1.out).mono ?_
    rintro e w5 ⟨q5, n5, cp5, er5, rfl, hr5, hb5⟩
    have hd5 := Lib.hid (hdc.out.trans (hb5.mono hdc.out.size))
    have v5 := Lib.hid (u5.out.below hb5 (Nat.le_refl _))
    have v6 := Lib.hid (u6.out.below hb5 (Nat.le_refl _))
    have p1 := Lib.hid (o1.out.below hb5 (Nat.le_refl _))
    have p2 := Lib.hid (o2.out.below hb5 (Nat.le_refl _))
    have hr5' := Lib.hid hr5
    clear hb5 hr5 u5 u6 o1 o2
    go_wp2_with (first
      | (with_reducible refine wpList_load_at rfl 27 (.tmp 6) rfl Try.underlying27 rfl hs4 rfl v6.out.all ?_))
    refine (content_any k4 rq4 rn4 rc4 kq4 kn4 kc4 y2 w5 p2.out).mono ?_
    rintro e w6 ⟨q6, n6, cp6, er6, rfl, hr6, hb6⟩
    have hd6 := Lib.hid (hd5.out.trans (hb6.mono hd5.out.size))
    have z5 := Lib.hid (v5.out.below hb6 (Nat.le_refl _))
    have z6 := Lib.hid (v6.out.below hb6 (Nat.le_refl _))
    have s1 := Lib.hid (p1.out.below hb6 (Nat.le_refl _))
    have s2 := Lib.hid (p2.out.below hb6 (Nat.le_refl _))
    rcases hr5'.out with ⟨rfl, hg5, ho5⟩ | ⟨rfl, _, _⟩
    · rcases hr6 with ⟨rfl, hg6, ho6⟩ | ⟨rfl, _, _⟩
      · have l5 := Lib.hid (holds_below ho5.holds.1 hb6 (Nat.le_refl _))
        have l6 := Lib.hid ho6.holds.1
        have hcp5 := ho5.holds.2.1
        have hcp6 := ho6.holds.2.1
        have hG5 := Lib.hid hg5
        have hG6 := Lib.hid hg6
        clear hg5 ho5 hg6 ho6 hr5' hb6 v5 v6 p1 p2
        have hsame := Lib.hid (same_c k3 rq3 rn3 rc3 kq3 kn3 kc3 y1 k4 rq4 rn4 rc4 kq4 kn4 kc4 y2 w6 s1.out s2.out)
        go_wp2_with (first
          | (with_reducible refine wpList_load_at rfl 27 (.tmp 5) rfl Try.underlying27 rfl hs3 rfl z5.out.all ?_)
          | (with_reducible refine wpList_load_at rfl 27 (.tmp 6) rfl Try.underlying27 rfl hs4 rfl z6.out.all ?_))
        refine hsame.out.mono ?_
        clear hsame
        rintro e w7 ⟨rfl, hb7⟩
        have hd7 := Lib.hid (hd6.out.trans (hb7.mono hd6.out.size))
        have m5 := Lib.hid (holds_below l5.out hb7 (Nat.le_refl _))
        have m6 := Lib.hid (holds_below l6.out hb7 (Nat.le_refl _))
        clear hb7
        by_cases he : y1 = y2
        · subst he
          rw [sameC_iff.2 rfl]
          have heq := Lib.hid (equal_same m5.out m6.out)
          go_wp2_with fail
          refine heq.out.mono ?_
          clear heq
          rintro e w8 ⟨rfl, rfl⟩
          go_wp2
          go_ret
          exact ⟨rfl, hd7.out⟩
        · have hns : sameC y1 y2 = false := by
            cases hx : sameC y1 y2 with
            | false => rfl
            | true => exact absurd (sameC_iff.1 hx) he
          rw [hns]
          have f1 := Lib.hid (not_front m5.out m6.out hcp5 (fun r h => he (enc_prefix hG5.out s1.out.ok hG6.out s2.out.ok h)))
          have f2 := Lib.hid (not_front m6.out m5.out hcp6 (fun r h => he (enc_prefix hG6.out s2.out.ok hG5.out s1.out.ok h).symm))
          go_wp2_with fail
          refine f1.out.mono ?_
          rintro e w8 ⟨rfl, rfl⟩
          go_wp2_with fail
          refine f2.out.mono ?_
          rintro e w9 ⟨rfl, rfl⟩
          go_wp2
          go_ret
          exact ⟨rfl, hd7.out⟩
      · go_wp2
        go_ret
        exact ⟨rfl, hd6.out⟩
    · go_wp2
      go_ret
      exact ⟨rfl, hd6.out⟩

set_option maxRecDepth 1000000 in
theorem apart_lifted (os : Os) (started : os.Started) (H : Type) (enc : TypeId × Value → H) :
    ReturnsInHanded {} Try.checked os 6 .any (Rows.codecApartSpec.pre6 enc Try.prog Try.f6 Rows.codecApartRow.domain false) (Rows.codecApartSpec.post enc Try.prog Try.f6 false true false false) := by
  refine returnsInHanded_of_change (C := Try.checked) own started (by kernel_rfl) Try.func6
    (ChangeSpec.witness6 (enc := enc) (C := Try.checked) false ⟨#[], #[.agg #[.int .i64 0, .slice none 0 0, .slice none 0 0], .agg #[.int .i64 0, .slice none 0 0, .slice none 0 0]], []⟩ 8 (by kernel_rfl) (by kernel_rfl) (by kernel_rfl) (by kernel_rfl)) ?_
  intro W base args ds gs before hval0 hW _ _
  have hval : ∀ (j : Nat) t v, Try.f6.params[j]? = some t → args[j]? = some v → Value.okWide Try.prog W .any base t v := hval0
  have hW' := hW
  obtain ⟨p, q, hA0, hV, rfl, _, _⟩ := hW
  have hA : DataW.TrodAll enc Try.prog W 0 (fun _ => true) true Try.f6.params.toList args.toList ds p := hA0
  rw [Try.params6] at hA hval
  obtain ⟨v0, v1, d0, d1, p0, p1, rfl, rfl, rfl, h0, h1⟩ := trodAll_two hA
  obtain ⟨rfl, rfl⟩ := trodVars_none hV
  obtain ⟨k0, rq0, rn0, rc0, kq0, kn0, kc0, x0, rfl, hc0⟩ := open_cont (hval 0 27 v0 rfl rfl) h0
  obtain ⟨k1, rq1, rn1, rc1, kq1, kn1, kc1, x1, rfl, hc1⟩ := open_cont (hval 1 27 v1 rfl rfl) h1
  refine (apart_law k0 rq0 rn0 rc0 kq0 kn0 kc0 x0 k1 rq1 rn1 rc1 kq1 kn1 kc1 x1 W hc0 hc1).mono fun e W' ⟨he, hb⟩ => ?_
  subst he
  exact ⟨_, rfl, law_post laidOut (of_decide_eq_true (by kernel_rfl)) rfl (by kernel_rfl) Try.underlying4 hW' ⟨rfl, rfl, rfl⟩ hb⟩

set_option maxRecDepth 1000000 in
theorem apart_holds : Rows.CodecApartSaid :=
  OpenClaim.holds_of_wide 6 Try.f6 rfl rfl rfl rfl rfl rfl rfl ⟨rfl, rfl, rfl, rfl, rfl⟩ rfl rfl rfl rfl rfl (by kernel_rfl) Try.func6 (by kernel_rfl)
    (of_decide_eq_true (by kernel_rfl)) (by unfold Func.isWrapper; first | (rw [if_pos (by decide +kernel)]; kernel_rfl) | (rw [if_neg (by decide +kernel)]; exact ⟨rfl, rfl⟩))
    (fun os started H enc _ => apart_lifted os started H enc)
end Go.Proofs.Ytekdkeoeijfhdaa
