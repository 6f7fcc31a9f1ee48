/- has, lay, the closures of ideal, and become. -/
import Derived.Test.YtkdkncbccofpdaaQ09
import Derived.Deep.RegionHeld3
import Derived.Maps.AppendAt
namespace Go.Proofs.Ytkdkncbccofpdaa
open Go.RowKit
set_option maxRecDepth 100000
/-- what the call's own variables turn does not count -/
theorem Gr.own2 {w u v : World} {g : Nat} (h : w.grownBy u (some g)) (hg : u.grownBy v (some w.heap.size)) : w.grownBy v (some g) :=
 ⟨hg.os.trans h.os, hg.tape.trans h.tape, hg.output.trans h.output, Nat.le_trans h.size hg.size, fun k hk hne => (hg.block k (Nat.lt_of_lt_of_le hk h.size) (fun e => by have := Option.some.inj e; omega)).trans (h.block k hk hne)⟩
set_option maxHeartbeats 4000000 in
theorem has_any (g : Nat) (tq : Option Addr) (tn tc : Nat) (rq : Option Addr) (rn rc : Nat) (bq : Option Addr) (bn bc : Nat) (mq : Option Addr) (mn mc : Nat) (o : Bool) (qk kt ki tt ti qv : Int) (qs : ByteArray) (qn : Int) (l : List RowD) (t id : Int) (w : World) (hg : RowV 94 w g [.slice tq tn tc, .slice rq rn rc, .slice bq bn bc, .slice mq mn mc, .bool o, .int .i64 qk, .int .i64 kt, .int .u16 ki, .int .i64 tt, .int .u16 ti, .int .i64 qv, .string qs, .int .i64 qn]) (hr : RowsOn w rq rn rc l) (hn : rn ≤ 1000000) :
 Calls Try.prog 86 #[.pointer (some ⟨g, 0, none⟩), .agg #[.int .i64 t, .int .u16 id]] w (fun e w' => e = .returned (.bool (findB l ⟨t, id⟩)) ∧ Below w.heap.size w w') := by
 obtain ⟨W, hW⟩ : ∃ W, w.alloc (.cells #[.int .i64 t, .int .u16 id] 28) = W := ⟨_, rfl⟩
 have hbx := Lib.hid (one_rowI (xs := [.int .i64 t, .int .u16 id]) hW)
 have y0 : W.cell? ⟨g, 1, none⟩ = some (.slice rq rn rc) := (hg.below hbx.out.1).cell 1
 have y1 : W.cell? ⟨w.heap.size, 0, none⟩ = some (.int .i64 t) := hbx.out.2.1.cell 0
 have y2 : W.cell? ⟨w.heap.size, 1, none⟩ = some (.int .u16 id) := hbx.out.2.1.cell 1
 have hcn := Lib.hid (fun u (hu : Below W.heap.size W u) => find_any rq rn rc l t id u ((hr.below hbx.out.1 (Nat.le_refl _)).below hu (Nat.le_refl _)) (by omega))
 have hs2 := sizeKey t id
 clear hg hr
 go_enter Try.func86, Try.ntmps86
 go_wp2
 go_region_held3 (fun u => u.cell? ⟨g, 1, none⟩ = some (.slice rq rn rc) ∧ u.cell? ⟨w.heap.size, 0, none⟩ = some (.int .i64 t) ∧ u.cell? ⟨w.heap.size, 1, none⟩ = some (.int .u16 id) ∧ Below W.heap.size W u)
  (first | exact ⟨y0, y1, y2, below_drew _⟩ | (go_split_ands; exact ⟨cell_keeps hq0.out (Nat.le_refl _) (by assumption), cell_keeps hq0.out (Nat.le_refl _) (by assumption), cell_keeps hq0.out (Nat.le_refl _) (by assumption), below_step hq0.out (by assumption)⟩) | go_keep)
  (first | (go_at_call 31; refine (hcn.out _ (by go_split_ands; first | assumption | exact below_drew _)).mono ?_; rintro e z0 ⟨rfl, hb⟩; have hq0 := Lib.hid hb; clear hb))
 have hv : Hid (Below W.heap.size W z0) := by
  show Below _ _ _
  go_split_ands
  assumption
 clear y0 y1 y2 hW
 go_wp2
 go_ret
 exact ⟨rfl, hbx.out.1.trans (hv.out.mono hbx.out.1.size)⟩
set_option maxHeartbeats 4000000 in
/-- lay, where there is no error -/
theorem lay_ok (g : Nat) (tq : Option Addr) (tn tc : Nat) (rq : Option Addr) (rn rc : Nat) (bq : Option Addr) (bn bc : Nat) (mq : Option Addr) (mn mc : Nat) (o : Bool) (qk kt ki tt ti qv : Int) (qs : ByteArray) (qn : Int) (q : Option Addr) (n c : Nat) (w : World) (hg : RowV 94 w g [.slice tq tn tc, .slice rq rn rc, .slice bq bn bc, .slice mq mn mc, .bool o, .int .i64 qk, .int .i64 kt, .int .u16 ki, .int .i64 tt, .int .u16 ti, .int .i64 qv, .string qs, .int .i64 qn]) :
 Calls Try.prog 87 #[.pointer (some ⟨g, 0, none⟩), .slice q n c, .int .i64 0] w (fun e w' => e = .returned (.agg #[.int .i64 0, .slice none 0 0, .int .i64 0]) ∧ RowV 94 w' g [.slice tq tn tc, .slice q n c, .slice bq bn bc, .slice mq mn mc, .bool o, .int .i64 qk, .int .i64 kt, .int .u16 ki, .int .i64 tt, .int .u16 ti, .int .i64 qv, .string qs, .int .i64 qn] ∧ w.grownBy w' (some g)) := by
 obtain ⟨W, hW⟩ : ∃ W, w.alloc (.cells #[.int .i64 0, .slice none 0 0, .int .i64 0] 35) = W := ⟨_, rfl⟩
 have hbx := Lib.hid (one_rowI (xs := [.int .i64 0, .slice none 0 0, .int .i64 0]) hW)
 have hlt := hg.lt
 have hg0 := Lib.hid (hg.below hbx.out.1)
 have c1 : W.cell? ⟨g, 1, none⟩ = some (.slice rq rn rc) := hg0.out.cell 1
 have f1 : W.frozen? ⟨g, 1, none⟩ = false := hg0.out.free 1
 obtain ⟨W2, hW2⟩ : ∃ u, W.setCell ⟨g, 1, none⟩ (.slice q n c) = u := ⟨_, rfl⟩
 have hg2 : Hid (W.grownBy W2 (some g)) := by rw [← hW2]; exact setCell_grown _ _ _ _
 have r2 : Hid (RowV 94 W2 g [.slice tq tn tc, .slice q n c, .slice bq bn bc, .slice mq mn mc, .bool o, .int .i64 qk, .int .i64 kt, .int .u16 ki, .int .i64 tt, .int .u16 ti, .int .i64 qv, .string qs, .int .i64 qn]) := by rw [← hW2]; exact hg0.out.set 1 _
 have x2 := Lib.hid (hbx.out.2.1.kept hg2.out (by omega))
 have gr2 := Lib.hid (grown_trans (below_grown hbx.out.1 (some g)) hg2.out)
 have hsz : Hid (w.heap.size < W2.heap.size) := by have h1 := hg2.out.size; have h2 := hbx.out.2.2; show _ < _; omega
 clear hg
 go_enter Try.func87, Try.ntmps87
 go_wp2_with fail
 clear hW hW2 c1 f1
 refine (told_any 0 W2).mono ?_
 rintro e w1 ⟨rfl, hb⟩
 have hs := sizeAns (.int .i64 0) (.slice none 0 0) (.int .i64 0)
 have x3 := Lib.hid (x2.out.below hb)
 have r3 := Lib.hid (r2.out.below hb)
 have gr3 := Lib.hid (grown_below gr2.out hb)
 clear hb
 go_wp2_with (first
  | ((with_reducible refine wpList_store_at rfl 35 (.tmp 6) (.tmp 15) rfl (o := 0) (vs := [.int .i64 0, .slice none 0 0, .int .i64 0]) rfl rfl x3.out hs (Nat.le_refl _) (ans_one _ _ _ _ _) ?_)
     intro w9 h9 hg9
     have h9' := Lib.hid h9
     have hg9' := Lib.hid hg9
     clear h9 hg9))
 have s1 : RowV 35 w9 w.heap.size [.int .i64 0, .slice none 0 0, .int .i64 0] := h9'.out
 have m0 := s1.cell 0
 have m1 := s1.cell 1
 have m2 := s1.cell 2
 simp only [List.getElem?_cons_zero, List.getElem?_cons_succ] at m0 m1 m2
 refine bodyPost_ret (v := .agg #[.int .i64 0, .slice none 0 0, .int .i64 0]) (by simp [results, Try.results87, go_sem, m0, m1, m2]) rfl ?_
 exact ⟨rfl, r3.out.kept hg9'.out (by omega), Gr.own2 gr3.out hg9'.out⟩
end Go.Proofs.Ytkdkncbccofpdaa
/-! The closures of ideal: what a row becomes. -/
namespace Go.Proofs.Ytkdkncbccofpdaa
open Go.RowKit
set_option maxRecDepth 100000
/-- what comes of the row in block r -/
def BecPost (r : Nat) (er : Int) (d : RowD) (w : World) (e : Ending) (w' : World) : Prop := e = .returned (.int .i64 er) ∧ RowV 68 w' r d.cells ∧ w.grownBy w' (some r)
set_option maxHeartbeats 2000000 in
theorem note1_any (g p r : Nat) (tq : Option Addr) (tn tc : Nat) (rq : Option Addr) (rn rc : Nat) (bq : Option Addr) (bn bc : Nat) (mq : Option Addr) (mn mc : Nat) (o : Bool) (qk kt ki tt ti qv : Int) (qs : ByteArray) (qn : Int) (a b c : Int) (s : ByteArray) (w : World) (hg : RowV 94 w g [.slice tq tn tc, .slice rq rn rc, .slice bq bn bc, .slice mq mn mc, .bool o, .int .i64 qk, .int .i64 kt, .int .u16 ki, .int .i64 tt, .int .u16 ti, .int .i64 qv, .string qs, .int .i64 qn]) (hp : w.cell? ⟨p, 0, none⟩ = some (.pointer (some ⟨g, 0, none⟩))) (hr : RowV 68 w r [.int .i64 a, .int .u16 b, .int .i64 c, .string s]) :
 Calls Try.prog 91 #[.pointer (some ⟨r, 0, none⟩), .pointer (some ⟨p, 0, none⟩)] w (BecPost r 0 ⟨⟨a, b⟩, c, qs⟩ w) := by
 have c1 : w.cell? ⟨g, 11, none⟩ = some (.string qs) := hg.cell 11
 have c2 : w.cell? ⟨r, 3, none⟩ = some (.string s) := hr.cell 3
 have f2 : w.frozen? ⟨r, 3, none⟩ = false := hr.free 3
 obtain ⟨W, hW⟩ : ∃ u, w.setCell ⟨r, 3, none⟩ (.string qs) = u := ⟨_, rfl⟩
 have hg2 : Hid (w.grownBy W (some r)) := by rw [← hW]; exact setCell_grown _ _ _ _
 have r2 : Hid (RowV 68 W r (RowD.cells ⟨⟨a, b⟩, c, qs⟩)) := by rw [← hW]; exact hr.set 3 _
 clear hg hr
 go_enter Try.func91, Try.ntmps91
 go_wp2
 go_ret
 exact ⟨rfl, r2.out, hg2.out⟩
set_option maxHeartbeats 2000000 in
theorem set1_any (g p r : Nat) (tq : Option Addr) (tn tc : Nat) (rq : Option Addr) (rn rc : Nat) (bq : Option Addr) (bn bc : Nat) (mq : Option Addr) (mn mc : Nat) (o : Bool) (qk kt ki tt ti qv : Int) (qs : ByteArray) (qn : Int) (a b c : Int) (s : ByteArray) (w : World) (hg : RowV 94 w g [.slice tq tn tc, .slice rq rn rc, .slice bq bn bc, .slice mq mn mc, .bool o, .int .i64 qk, .int .i64 kt, .int .u16 ki, .int .i64 tt, .int .u16 ti, .int .i64 qv, .string qs, .int .i64 qn]) (hp : w.cell? ⟨p, 0, none⟩ = some (.pointer (some ⟨g, 0, none⟩))) (hr : RowV 68 w r [.int .i64 a, .int .u16 b, .int .i64 c, .string s]) :
 Calls Try.prog 92 #[.pointer (some ⟨r, 0, none⟩), .pointer (some ⟨p, 0, none⟩)] w (BecPost r 0 ⟨⟨a, b⟩, qv, s⟩ w) := by
 have c1 : w.cell? ⟨g, 10, none⟩ = some (.int .i64 qv) := hg.cell 10
 have c2 : w.cell? ⟨r, 2, none⟩ = some (.int .i64 c) := hr.cell 2
 have f2 : w.frozen? ⟨r, 2, none⟩ = false := hr.free 2
 obtain ⟨W, hW⟩ : ∃ u, w.setCell ⟨r, 2, none⟩ (.int .i64 qv) = u := ⟨_, rfl⟩
 have hg2 : Hid (w.grownBy W (some r)) := by rw [← hW]; exact setCell_grown _ _ _ _
 have r2 : Hid (RowV 68 W r (RowD.cells ⟨⟨a, b⟩, qv, s⟩)) := by rw [← hW]; exact hr.set 2 _
 clear hg hr
 go_enter Try.func92, Try.ntmps92
 go_wp2
 go_ret
 exact ⟨rfl, r2.out, hg2.out⟩
set_option maxHeartbeats 2000000 in
theorem plus1_any (p r : Nat) (by_ : Int) (a b c : Int) (s : ByteArray) (w : World) (hp : w.cell? ⟨p, 0, none⟩ = some (.int .i64 by_)) (hr : RowV 68 w r [.int .i64 a, .int .u16 b, .int .i64 c, .string s]) (hc : I64 c) (hby : I64 by_) :
 Calls Try.prog 96 #[.pointer (some ⟨r, 0, none⟩), .pointer (some ⟨p, 0, none⟩)] w (BecPost r (if fits c by_ = true then 0 else 152) (if fits c by_ = true then ⟨⟨a, b⟩, c + by_, s⟩ else ⟨⟨a, b⟩, c, s⟩) w) := by
 have c2 : w.cell? ⟨r, 2, none⟩ = some (.int .i64 c) := hr.cell 2
 unfold I64 at hc hby
 have hpl := Lib.hid (fun u (hu : Below w.heap.size w u) => plus_any c by_ u ⟨hc.1, by omega⟩ ⟨hby.1, by omega⟩)
 have hkeep := Lib.hid (fun u (hu : Below w.heap.size w u) => hr.below hu)
 have hcell := Lib.hid (fun u (hu : RowV 68 u r [.int .i64 a, .int .u16 b, .int .i64 c, .string s]) => (⟨hu.cell 2, hu.free 2⟩ : u.cell? ⟨r, 2, none⟩ = some (.int .i64 c) ∧ u.frozen? ⟨r, 2, none⟩ = false))
 have hor := Lib.hid (fits_or c by_)
 clear hr hc hby
 obtain ⟨B, hB⟩ : ∃ B, fits c by_ = B := ⟨_, rfl⟩
 obtain ⟨pn, hpn⟩ : ∃ pn, plusN c by_ = pn := ⟨_, rfl⟩
 rw [hB] at hpl ⊢
 rw [hpn] at hpl
 have hor2 : Hid (B = true → pn = c + by_) := fun e => by
  rcases hor.out with ⟨_, _, _, h⟩ | ⟨_, h, _⟩ | ⟨_, h, _⟩
  · rw [← hpn]; exact h
  · rw [e] at hB; rw [hB] at h; cases h
  · rw [e] at hB; rw [hB] at h; cases h
 clear hB hpn hor
 cases B with
 | true =>
   have hpv := hor2.out rfl
   subst hpv
   go_enter Try.func96, Try.ntmps96
   go_wp2
   go_region_held3 (fun u => u.cell? ⟨r, 2, none⟩ = some (.int .i64 c) ∧ u.cell? ⟨p, 0, none⟩ = some (.int .i64 by_) ∧ Below w.heap.size w u)
    (first | exact ⟨c2, hp, below_drew _⟩ | (go_split_ands; exact ⟨cell_keeps hq0.out (Nat.le_refl _) (by assumption), cell_keeps hq0.out (Nat.le_refl _) (by assumption), below_step hq0.out (by assumption)⟩) | go_keep)
    (first | (go_at_call 32; refine (hpl.out _ (by go_split_ands; first | assumption | exact below_drew _)).mono ?_; rintro e z0 ⟨rfl, hb⟩; have hq0 := Lib.hid hb; clear hb))
   have hv : Hid (Below w.heap.size w z0) := by
    show Below _ _ _
    go_split_ands
    assumption
   have hr0 := Lib.hid (hkeep.out z0 hv.out)
   have k2 := (hcell.out z0 hr0.out).1
   have k3 := (hcell.out z0 hr0.out).2
   obtain ⟨W, hW⟩ : ∃ u, z0.setCell ⟨r, 2, none⟩ (.int .i64 (c + by_)) = u := ⟨_, rfl⟩
   have hg2 : Hid (z0.grownBy W (some r)) := by rw [← hW]; exact setCell_grown _ _ _ _
   have r2 : Hid (RowV 68 W r (RowD.cells ⟨⟨a, b⟩, c + by_, s⟩)) := by rw [← hW]; exact hr0.out.set 2 _
   clear c2 hp
   go_wp2
   go_ret
   exact ⟨rfl, r2.out, grown_trans (below_grown hv.out (some r)) hg2.out⟩
 | false =>
   go_enter Try.func96, Try.ntmps96
   go_wp2
   go_region_held3 (fun u => u.cell? ⟨r, 2, none⟩ = some (.int .i64 c) ∧ u.cell? ⟨p, 0, none⟩ = some (.int .i64 by_) ∧ Below w.heap.size w u)
    (first | exact ⟨c2, hp, below_drew _⟩ | (go_split_ands; exact ⟨cell_keeps hq0.out (Nat.le_refl _) (by assumption), cell_keeps hq0.out (Nat.le_refl _) (by assumption), below_step hq0.out (by assumption)⟩) | go_keep)
    (first | (go_at_call 32; refine (hpl.out _ (by go_split_ands; first | assumption | exact below_drew _)).mono ?_; rintro e z0 ⟨rfl, hb⟩; have hq0 := Lib.hid hb; clear hb))
   have hv : Hid (Below w.heap.size w z0) := by
    show Below _ _ _
    go_split_ands
    assumption
   clear c2 hp
   go_wp2
   go_ret
   exact ⟨rfl, hkeep.out z0 hv.out, below_grown hv.out (some r)⟩
end Go.Proofs.Ytkdkncbccofpdaa
/-! become of ideal: these rows, in which the one of a key has become another one of that key; plus. -/
namespace Go.Proofs.Ytkdkncbccofpdaa
open Go.RowKit
set_option maxRecDepth 100000
/-- the error, and the rows, that come of the row of a key becoming another one -/
def becR (bs : List BdD) (l : List RowD) (k : KeyD) (er : RowD → Int) (nw : RowD → RowD) : Int × List RowD :=
 match findK l k with
 | none => (4, [])
 | some i => match l[i]? with
   | none => (4, [])
   | some d => if er d = 0 then (putE bs l (nw d), putR bs l (nw d)) else (er d, [])
def erZ : RowD → Int := fun _ => 0
def nwNote (s : ByteArray) : RowD → RowD := fun d => ⟨d.key, d.val, s⟩
def nwSet (v : Int) : RowD → RowD := fun d => ⟨d.key, v, d.note⟩
def erPlus (v : Int) : RowD → Int := fun d => if fits d.val v = true then 0 else 152
def nwPlus (v : Int) : RowD → RowD := fun d => if fits d.val v = true then ⟨d.key, d.val + v, d.note⟩ else d
def BcPost (bs : List BdD) (l : List RowD) (k : KeyD) (er : RowD → Int) (nw : RowD → RowD) (w : World) (e : Ending) (w' : World) : Prop :=
 ∃ q' m' c', e = .returned (.tuple #[.slice q' m' c', .int .i64 (becR bs l k er nw).1]) ∧ OwnL w' q' m' c' (becR bs l k er nw).2 ∧ Below w.heap.size w w'
theorem findK_at {l : List RowD} {k : KeyD} {i : Nat} (h : findK l k = some i) : i < l.length := by
 unfold findK at h
 exact (List.findIdx?_eq_some_iff_getElem.1 h).1
set_option maxHeartbeats 8000000 in
theorem become_note (g p : Nat) (tq : Option Addr) (tn tc : Nat) (rq : Option Addr) (rn rc : Nat) (bq : Option Addr) (bn bc : Nat) (mq : Option Addr) (mn mc : Nat) (o : Bool) (qk kt ki tt ti qv : Int) (qs : ByteArray) (qn : Int) (bs : List BdD) (q : Option Addr) (n c : Nat) (l : List RowD) (t id : Int) (w : World) (hg : RowV 94 w g [.slice tq tn tc, .slice rq rn rc, .slice bq bn bc, .slice mq mn mc, .bool o, .int .i64 qk, .int .i64 kt, .int .u16 ki, .int .i64 tt, .int .u16 ti, .int .i64 qv, .string qs, .int .i64 qn]) (hs : SchOn w tq tn tc bs) (hr : RowsOn w q n c l) (hn : n ≤ 1000000) (hp : w.cell? ⟨p, 0, none⟩ = some (.pointer (some ⟨g, 0, none⟩))) (hqs : qs.size ≤ maxLen) :
 Calls Try.prog 90 #[.pointer (some ⟨g, 0, none⟩), .slice q n c, .agg #[.int .i64 t, .int .u16 id], .func (.func 91) #[] #[.pointer (some ⟨p, 0, none⟩)]] w (BcPost bs l ⟨t, id⟩ (erZ) (nwNote qs) w) := by
 obtain ⟨W, hW⟩ : ∃ W, w.alloc (.cells #[.int .i64 t, .int .u16 id] 28) = W := ⟨_, rfl⟩
 have hbx := Lib.hid (one_rowI (xs := [.int .i64 t, .int .u16 id]) hW)
 have b0 := Lib.hid hbx.out.1
 have hkk := Lib.hid hbx.out.2.1
 have hs2 := sizeKey t id
 have hsl := Lib.hid hr.len
 have hg' := Lib.hid hg
 have hs' := Lib.hid hs
 have hr' := Lib.hid hr
 have hlt := hg.lt
 have hpp := Lib.hid ((⟨hp, cell_in hp⟩ : w.cell? ⟨p, 0, none⟩ = some (.pointer (some ⟨g, 0, none⟩)) ∧ p < w.heap.size))
 clear hbx hg hs hr hp
 go_enter Try.func90, Try.ntmps90
 go_wp2_with (first
  | (with_reducible refine wpList_load_at rfl 28 (.tmp 6) rfl Try.underlying28 rfl hs2 rfl hkk.out.boxed.all ?_))
 clear hW
 refine (find_any q n c l t id W (hr'.out.below b0.out (Nat.le_refl _)) (by omega)).mono ?_
 rintro e w1 ⟨rfl, hb⟩
 have b1 := Lib.hid (b0.out.trans (hb.mono b0.out.size))
 clear hb
 cases hfk : findK l ⟨t, id⟩ with
 | none =>
   have hB : findB l ⟨t, id⟩ = false := by unfold findB; rw [hfk]; rfl
   rw [hB]
   have hres : Hid (becR bs l ⟨t, id⟩ (erZ) (nwNote qs) = (4, [])) := by show _ = _; unfold becR; rw [hfk]
   clear hfk hB
   go_wp2
   go_ret2
   exact ⟨none, 0, 0, ret_si (by rw [hres.out]), by rw [hres.out]; exact OwnL.none_ _, b1.out⟩
 | some i =>
   have hB : findB l ⟨t, id⟩ = true := by unfold findB; rw [hfk]; rfl
   have hN : findN l ⟨t, id⟩ = (i : Int) := by unfold findN; rw [hfk]
   rw [hB, hN]
   have hi : i < n := by have := findK_at hfk; rw [hsl.out] at this; exact this
   have hr1 := Lib.hid (hr'.out.below b1.out (Nat.le_refl _))
   obtain ⟨A, ⟨⟨dt, di⟩, dv, ds⟩, rfl, hx, hok, hc⟩ := hr1.out.at hi
   have hres0 : Hid (becR bs l ⟨t, id⟩ (erZ) (nwNote qs) = if (erZ) ⟨⟨dt, di⟩, dv, ds⟩ = 0 then (putE bs l ((nwNote qs) ⟨⟨dt, di⟩, dv, ds⟩), putR bs l ((nwNote qs) ⟨⟨dt, di⟩, dv, ds⟩)) else ((erZ) ⟨⟨dt, di⟩, dv, ds⟩, [])) := by show _ = _; unfold becR; rw [hfk]; simp only [hx]
   have hcell : Hid (∀ j x, ([.int .i64 dt, .int .u16 di, .int .i64 dv, .string ds] : List Value)[j]? = some x → w1.cell? ((A.add (i * 4)).add j) = some x) := hc
   have hok' := Lib.hid hok
   have hs3 := sizeRow dt di dv ds
   obtain ⟨W2, hW2⟩ : ∃ W2, w1.alloc (.cells #[.int .i64 dt, .int .u16 di, .int .i64 dv, .string ds] 68) = W2 := ⟨_, rfl⟩
   have hbx2 := Lib.hid (one_rowI (xs := [.int .i64 dt, .int .u16 di, .int .i64 dv, .string ds]) hW2)
   have b2 := Lib.hid (b1.out.trans (hbx2.out.1.mono b1.out.size))
   have rw2 := Lib.hid hbx2.out.2.1
   have hsz2 : Hid (w.heap.size ≤ w1.heap.size) := b1.out.size
   clear hfk hB hN hx hok hc hbx2
   go_wp2_with (first
    | (with_reducible refine wpList_load_at rfl 68 (.tmp 24) rfl Try.underlying68 rfl hs3 rfl hcell.out ?_)
    | (go_at_call 91
       refine (note1_any g p w1.heap.size tq tn tc rq rn rc bq bn bc mq mn mc o qk kt ki tt ti qv qs qn dt di dv ds W2 (hg'.out.below b2.out) (cell_keeps b2.out (Nat.le_refl _) hpp.out.1) rw2.out).mono ?_
       rintro e w3 ⟨rfl, hrow, hgr⟩
       have rw3 := Lib.hid hrow
       have b3 := Lib.hid (b2.out.grown hgr b2.out.size (fun k hk => by cases hk; exact hsz2.out))
       clear hrow hgr))
   have hres : Hid (becR bs l ⟨t, id⟩ (erZ) (nwNote qs) = (putE bs l ⟨⟨dt, di⟩, dv, qs⟩, putR bs l ⟨⟨dt, di⟩, dv, qs⟩)) := by show _ = _; rw [hres0.out]; rfl
   clear hres0
   clear hW2 hcell
   have hg3 := Lib.hid (hg'.out.below b3.out)
   have y0 : w3.cell? ⟨g, 0, none⟩ = some (.slice tq tn tc) := hg3.out.cell 0
   have y1 : w3.cell? ⟨w1.heap.size, 0, none⟩ = some (.int .i64 dt) := rw3.out.cell 0
   have y2 : w3.cell? ⟨w1.heap.size, 1, none⟩ = some (.int .u16 di) := rw3.out.cell 1
   have y3 : w3.cell? ⟨w1.heap.size, 2, none⟩ = some (.int .i64 (dv)) := rw3.out.cell 2
   have y4 : w3.cell? ⟨w1.heap.size, 3, none⟩ = some (.string qs) := rw3.out.cell 3
   have hnok : Hid (RowOk ⟨⟨dt, di⟩, dv, qs⟩) := ⟨hok'.out.key, hok'.out.val, hqs⟩
   have hpu := Lib.hid (fun u (hu : Below w3.heap.size w3 u) => put_any tq tn tc bs (some A) n c l dt di (dv) (qs) u ((hs'.out.below b3.out (Nat.le_refl _)).below hu (Nat.le_refl _)) ((hr'.out.below b3.out (Nat.le_refl _)).below hu (Nat.le_refl _)) hnok.out)
   have hs4 := sizeRow dt di (dv) (qs)
   go_wp2
   go_region_held3 (fun u => u.cell? ⟨g, 0, none⟩ = some (.slice tq tn tc) ∧ u.cell? ⟨w1.heap.size, 0, none⟩ = some (.int .i64 dt) ∧ u.cell? ⟨w1.heap.size, 1, none⟩ = some (.int .u16 di) ∧ u.cell? ⟨w1.heap.size, 2, none⟩ = some (.int .i64 (dv)) ∧ u.cell? ⟨w1.heap.size, 3, none⟩ = some (.string (qs)) ∧ Below w3.heap.size w3 u)
    (first | exact ⟨y0, y1, y2, y3, y4, below_drew _⟩ | (go_split_ands; exact ⟨cell_keeps hq0.out (Nat.le_refl _) (by assumption), cell_keeps hq0.out (Nat.le_refl _) (by assumption), cell_keeps hq0.out (Nat.le_refl _) (by assumption), cell_keeps hq0.out (Nat.le_refl _) (by assumption), cell_keeps hq0.out (Nat.le_refl _) (by assumption), below_step hq0.out (by assumption)⟩) | go_keep)
    (first | (go_at_call 88; refine (hpu.out _ (by go_split_ands; first | assumption | exact below_drew _)).mono ?_; rintro e z0 ⟨q5, m5, c5, rfl, hr5, hb, ho5⟩; have hq0 := Lib.hid hb; have hr5 := Lib.hid hr5; have ho5 := Lib.hid ho5; clear hb))
   have hv : Hid (Below w3.heap.size w3 z0) := by
    show Below _ _ _
    go_split_ands
    assumption
   clear y0 y1 y2 y3 y4
   go_wp2
   go_ret2
   refine ⟨q5, m5, c5, ret_si (by rw [hres.out]), ?_, b3.out.trans (hv.out.mono b3.out.size)⟩
   · rw [hres.out]; exact ⟨ho5.out, hr5.out.ok⟩
set_option maxHeartbeats 8000000 in
theorem become_set (g p : Nat) (tq : Option Addr) (tn tc : Nat) (rq : Option Addr) (rn rc : Nat) (bq : Option Addr) (bn bc : Nat) (mq : Option Addr) (mn mc : Nat) (o : Bool) (qk kt ki tt ti qv : Int) (qs : ByteArray) (qn : Int) (bs : List BdD) (q : Option Addr) (n c : Nat) (l : List RowD) (t id : Int) (w : World) (hg : RowV 94 w g [.slice tq tn tc, .slice rq rn rc, .slice bq bn bc, .slice mq mn mc, .bool o, .int .i64 qk, .int .i64 kt, .int .u16 ki, .int .i64 tt, .int .u16 ti, .int .i64 qv, .string qs, .int .i64 qn]) (hs : SchOn w tq tn tc bs) (hr : RowsOn w q n c l) (hn : n ≤ 1000000) (hp : w.cell? ⟨p, 0, none⟩ = some (.pointer (some ⟨g, 0, none⟩))) (hqv : I64 qv) :
 Calls Try.prog 90 #[.pointer (some ⟨g, 0, none⟩), .slice q n c, .agg #[.int .i64 t, .int .u16 id], .func (.func 92) #[] #[.pointer (some ⟨p, 0, none⟩)]] w (BcPost bs l ⟨t, id⟩ (erZ) (nwSet qv) w) := by
 obtain ⟨W, hW⟩ : ∃ W, w.alloc (.cells #[.int .i64 t, .int .u16 id] 28) = W := ⟨_, rfl⟩
 have hbx := Lib.hid (one_rowI (xs := [.int .i64 t, .int .u16 id]) hW)
 have b0 := Lib.hid hbx.out.1
 have hkk := Lib.hid hbx.out.2.1
 have hs2 := sizeKey t id
 have hsl := Lib.hid hr.len
 have hg' := Lib.hid hg
 have hs' := Lib.hid hs
 have hr' := Lib.hid hr
 have hlt := hg.lt
 have hpp := Lib.hid ((⟨hp, cell_in hp⟩ : w.cell? ⟨p, 0, none⟩ = some (.pointer (some ⟨g, 0, none⟩)) ∧ p < w.heap.size))
 clear hbx hg hs hr hp
 go_enter Try.func90, Try.ntmps90
 go_wp2_with (first
  | (with_reducible refine wpList_load_at rfl 28 (.tmp 6) rfl Try.underlying28 rfl hs2 rfl hkk.out.boxed.all ?_))
 clear hW
 refine (find_any q n c l t id W (hr'.out.below b0.out (Nat.le_refl _)) (by omega)).mono ?_
 rintro e w1 ⟨rfl, hb⟩
 have b1 := Lib.hid (b0.out.trans (hb.mono b0.out.size))
 clear hb
 cases hfk : findK l ⟨t, id⟩ with
 | none =>
   have hB : findB l ⟨t, id⟩ = false := by unfold findB; rw [hfk]; rfl
   rw [hB]
   have hres : Hid (becR bs l ⟨t, id⟩ (erZ) (nwSet qv) = (4, [])) := by show _ = _; unfold becR; rw [hfk]
   clear hfk hB
   go_wp2
   go_ret2
   exact ⟨none, 0, 0, ret_si (by rw [hres.out]), by rw [hres.out]; exact OwnL.none_ _, b1.out⟩
 | some i =>
   have hB : findB l ⟨t, id⟩ = true := by unfold findB; rw [hfk]; rfl
   have hN : findN l ⟨t, id⟩ = (i : Int) := by unfold findN; rw [hfk]
   rw [hB, hN]
   have hi : i < n := by have := findK_at hfk; rw [hsl.out] at this; exact this
   have hr1 := Lib.hid (hr'.out.below b1.out (Nat.le_refl _))
   obtain ⟨A, ⟨⟨dt, di⟩, dv, ds⟩, rfl, hx, hok, hc⟩ := hr1.out.at hi
   have hres0 : Hid (becR bs l ⟨t, id⟩ (erZ) (nwSet qv) = if (erZ) ⟨⟨dt, di⟩, dv, ds⟩ = 0 then (putE bs l ((nwSet qv) ⟨⟨dt, di⟩, dv, ds⟩), putR bs l ((nwSet qv) ⟨⟨dt, di⟩, dv, ds⟩)) else ((erZ) ⟨⟨dt, di⟩, dv, ds⟩, [])) := by show _ = _; unfold becR; rw [hfk]; simp only [hx]
   have hcell : Hid (∀ j x, ([.int .i64 dt, .int .u16 di, .int .i64 dv, .string ds] : List Value)[j]? = some x → w1.cell? ((A.add (i * 4)).add j) = some x) := hc
   have hok' := Lib.hid hok
   have hs3 := sizeRow dt di dv ds
   obtain ⟨W2, hW2⟩ : ∃ W2, w1.alloc (.cells #[.int .i64 dt, .int .u16 di, .int .i64 dv, .string ds] 68) = W2 := ⟨_, rfl⟩
   have hbx2 := Lib.hid (one_rowI (xs := [.int .i64 dt, .int .u16 di, .int .i64 dv, .string ds]) hW2)
   have b2 := Lib.hid (b1.out.trans (hbx2.out.1.mono b1.out.size))
   have rw2 := Lib.hid hbx2.out.2.1
   have hsz2 : Hid (w.heap.size ≤ w1.heap.size) := b1.out.size
   clear hfk hB hN hx hok hc hbx2
   go_wp2_with (first
    | (with_reducible refine wpList_load_at rfl 68 (.tmp 24) rfl Try.underlying68 rfl hs3 rfl hcell.out ?_)
    | (go_at_call 92
       refine (set1_any g p w1.heap.size tq tn tc rq rn rc bq bn bc mq mn mc o qk kt ki tt ti qv qs qn dt di dv ds W2 (hg'.out.below b2.out) (cell_keeps b2.out (Nat.le_refl _) hpp.out.1) rw2.out).mono ?_
       rintro e w3 ⟨rfl, hrow, hgr⟩
       have rw3 := Lib.hid hrow
       have b3 := Lib.hid (b2.out.grown hgr b2.out.size (fun k hk => by cases hk; exact hsz2.out))
       clear hrow hgr))
   have hres : Hid (becR bs l ⟨t, id⟩ (erZ) (nwSet qv) = (putE bs l ⟨⟨dt, di⟩, qv, ds⟩, putR bs l ⟨⟨dt, di⟩, qv, ds⟩)) := by show _ = _; rw [hres0.out]; rfl
   clear hres0
   clear hW2 hcell
   have hg3 := Lib.hid (hg'.out.below b3.out)
   have y0 : w3.cell? ⟨g, 0, none⟩ = some (.slice tq tn tc) := hg3.out.cell 0
   have y1 : w3.cell? ⟨w1.heap.size, 0, none⟩ = some (.int .i64 dt) := rw3.out.cell 0
   have y2 : w3.cell? ⟨w1.heap.size, 1, none⟩ = some (.int .u16 di) := rw3.out.cell 1
   have y3 : w3.cell? ⟨w1.heap.size, 2, none⟩ = some (.int .i64 (qv)) := rw3.out.cell 2
   have y4 : w3.cell? ⟨w1.heap.size, 3, none⟩ = some (.string ds) := rw3.out.cell 3
   have hnok : Hid (RowOk ⟨⟨dt, di⟩, qv, ds⟩) := ⟨hok'.out.key, hqv, hok'.out.note⟩
   have hpu := Lib.hid (fun u (hu : Below w3.heap.size w3 u) => put_any tq tn tc bs (some A) n c l dt di (qv) (ds) u ((hs'.out.below b3.out (Nat.le_refl _)).below hu (Nat.le_refl _)) ((hr'.out.below b3.out (Nat.le_refl _)).below hu (Nat.le_refl _)) hnok.out)
   have hs4 := sizeRow dt di (qv) (ds)
   go_wp2
   go_region_held3 (fun u => u.cell? ⟨g, 0, none⟩ = some (.slice tq tn tc) ∧ u.cell? ⟨w1.heap.size, 0, none⟩ = some (.int .i64 dt) ∧ u.cell? ⟨w1.heap.size, 1, none⟩ = some (.int .u16 di) ∧ u.cell? ⟨w1.heap.size, 2, none⟩ = some (.int .i64 (qv)) ∧ u.cell? ⟨w1.heap.size, 3, none⟩ = some (.string (ds)) ∧ Below w3.heap.size w3 u)
    (first | exact ⟨y0, y1, y2, y3, y4, below_drew _⟩ | (go_split_ands; exact ⟨cell_keeps hq0.out (Nat.le_refl _) (by assumption), cell_keeps hq0.out (Nat.le_refl _) (by assumption), cell_keeps hq0.out (Nat.le_refl _) (by assumption), cell_keeps hq0.out (Nat.le_refl _) (by assumption), cell_keeps hq0.out (Nat.le_refl _) (by assumption), below_step hq0.out (by assumption)⟩) | go_keep)
    (first | (go_at_call 88; refine (hpu.out _ (by go_split_ands; first | assumption | exact below_drew _)).mono ?_; rintro e z0 ⟨q5, m5, c5, rfl, hr5, hb, ho5⟩; have hq0 := Lib.hid hb; have hr5 := Lib.hid hr5; have ho5 := Lib.hid ho5; clear hb))
   have hv : Hid (Below w3.heap.size w3 z0) := by
    show Below _ _ _
    go_split_ands
    assumption
   clear y0 y1 y2 y3 y4
   go_wp2
   go_ret2
   refine ⟨q5, m5, c5, ret_si (by rw [hres.out]), ?_, b3.out.trans (hv.out.mono b3.out.size)⟩
   · rw [hres.out]; exact ⟨ho5.out, hr5.out.ok⟩
set_option maxHeartbeats 8000000 in
theorem become_plus (g p : Nat) (tq : Option Addr) (tn tc : Nat) (rq : Option Addr) (rn rc : Nat) (bq : Option Addr) (bn bc : Nat) (mq : Option Addr) (mn mc : Nat) (o : Bool) (qk kt ki tt ti qv : Int) (qs : ByteArray) (qn : Int) (bs : List BdD) (q : Option Addr) (n c : Nat) (l : List RowD) (t id : Int) (w : World) (hg : RowV 94 w g [.slice tq tn tc, .slice rq rn rc, .slice bq bn bc, .slice mq mn mc, .bool o, .int .i64 qk, .int .i64 kt, .int .u16 ki, .int .i64 tt, .int .u16 ti, .int .i64 qv, .string qs, .int .i64 qn]) (hs : SchOn w tq tn tc bs) (hr : RowsOn w q n c l) (hn : n ≤ 1000000) (vb : Int) (hp : w.cell? ⟨p, 0, none⟩ = some (.int .i64 vb)) (hvb : I64 vb) :
 Calls Try.prog 90 #[.pointer (some ⟨g, 0, none⟩), .slice q n c, .agg #[.int .i64 t, .int .u16 id], .func (.func 96) #[] #[.pointer (some ⟨p, 0, none⟩)]] w (BcPost bs l ⟨t, id⟩ (erPlus vb) (nwPlus vb) w) := by
 obtain ⟨W, hW⟩ : ∃ W, w.alloc (.cells #[.int .i64 t, .int .u16 id] 28) = W := ⟨_, rfl⟩
 have hbx := Lib.hid (one_rowI (xs := [.int .i64 t, .int .u16 id]) hW)
 have b0 := Lib.hid hbx.out.1
 have hkk := Lib.hid hbx.out.2.1
 have hs2 := sizeKey t id
 have hsl := Lib.hid hr.len
 have hg' := Lib.hid hg
 have hs' := Lib.hid hs
 have hr' := Lib.hid hr
 have hlt := hg.lt
 have hpp := Lib.hid ((⟨hp, cell_in hp⟩ : w.cell? ⟨p, 0, none⟩ = some (.int .i64 vb) ∧ p < w.heap.size))
 clear hbx hg hs hr hp
 go_enter Try.func90, Try.ntmps90
 go_wp2_with (first
  | (with_reducible refine wpList_load_at rfl 28 (.tmp 6) rfl Try.underlying28 rfl hs2 rfl hkk.out.boxed.all ?_))
 clear hW
 refine (find_any q n c l t id W (hr'.out.below b0.out (Nat.le_refl _)) (by omega)).mono ?_
 rintro e w1 ⟨rfl, hb⟩
 have b1 := Lib.hid (b0.out.trans (hb.mono b0.out.size))
 clear hb
 cases hfk : findK l ⟨t, id⟩ with
 | none =>
   have hB : findB l ⟨t, id⟩ = false := by unfold findB; rw [hfk]; rfl
   rw [hB]
   have hres : Hid (becR bs l ⟨t, id⟩ (erPlus vb) (nwPlus vb) = (4, [])) := by show _ = _; unfold becR; rw [hfk]
   clear hfk hB
   go_wp2
   go_ret2
   exact ⟨none, 0, 0, ret_si (by rw [hres.out]), by rw [hres.out]; exact OwnL.none_ _, b1.out⟩
 | some i =>
   have hB : findB l ⟨t, id⟩ = true := by unfold findB; rw [hfk]; rfl
   have hN : findN l ⟨t, id⟩ = (i : Int) := by unfold findN; rw [hfk]
   rw [hB, hN]
   have hi : i < n := by have := findK_at hfk; rw [hsl.out] at this; exact this
   have hr1 := Lib.hid (hr'.out.below b1.out (Nat.le_refl _))
   obtain ⟨A, ⟨⟨dt, di⟩, dv, ds⟩, rfl, hx, hok, hc⟩ := hr1.out.at hi
   have hres0 : Hid (becR bs l ⟨t, id⟩ (erPlus vb) (nwPlus vb) = if (erPlus vb) ⟨⟨dt, di⟩, dv, ds⟩ = 0 then (putE bs l ((nwPlus vb) ⟨⟨dt, di⟩, dv, ds⟩), putR bs l ((nwPlus vb) ⟨⟨dt, di⟩, dv, ds⟩)) else ((erPlus vb) ⟨⟨dt, di⟩, dv, ds⟩, [])) := by show _ = _; unfold becR; rw [hfk]; simp only [hx]
   have hcell : Hid (∀ j x, ([.int .i64 dt, .int .u16 di, .int .i64 dv, .string ds] : List Value)[j]? = some x → w1.cell? ((A.add (i * 4)).add j) = some x) := hc
   have hok' := Lib.hid hok
   have hs3 := sizeRow dt di dv ds
   obtain ⟨W2, hW2⟩ : ∃ W2, w1.alloc (.cells #[.int .i64 dt, .int .u16 di, .int .i64 dv, .string ds] 68) = W2 := ⟨_, rfl⟩
   have hbx2 := Lib.hid (one_rowI (xs := [.int .i64 dt, .int .u16 di, .int .i64 dv, .string ds]) hW2)
   have b2 := Lib.hid (b1.out.trans (hbx2.out.1.mono b1.out.size))
   have rw2 := Lib.hid hbx2.out.2.1
   have hsz2 : Hid (w.heap.size ≤ w1.heap.size) := b1.out.size
   clear hfk hB hN hx hok hc hbx2
   have hfo := Lib.hid (fits_or dv vb)
   obtain ⟨B, hfi⟩ : ∃ B, Hid (fits dv vb = B) := ⟨_, rfl⟩
   cases B with
   | true =>
     have hres : Hid (becR bs l ⟨t, id⟩ (erPlus vb) (nwPlus vb) = (putE bs l ⟨⟨dt, di⟩, dv + vb, ds⟩, putR bs l ⟨⟨dt, di⟩, dv + vb, ds⟩)) := by show _ = _; rw [hres0.out]; unfold erPlus nwPlus; simp only [hfi.out, if_true]
     clear hres0
     go_wp2_with (first
      | (with_reducible refine wpList_load_at rfl 68 (.tmp 24) rfl Try.underlying68 rfl hs3 rfl hcell.out ?_)
      | (go_at_call 96
         have hpc := plus1_any p w1.heap.size vb dt di dv ds W2 (cell_keeps b2.out (Nat.le_refl _) hpp.out.1) rw2.out hok'.out.val hvb
         rw [hfi.out] at hpc
         simp only [if_true] at hpc
         refine hpc.mono ?_
         rintro e w3 ⟨rfl, hrow, hgr⟩
         have rw3 := Lib.hid hrow
         have b3 := Lib.hid (b2.out.grown hgr b2.out.size (fun k hk => by cases hk; exact hsz2.out))
         clear hrow hgr))
     clear hW2 hcell
     have hg3 := Lib.hid (hg'.out.below b3.out)
     have y0 : w3.cell? ⟨g, 0, none⟩ = some (.slice tq tn tc) := hg3.out.cell 0
     have y1 : w3.cell? ⟨w1.heap.size, 0, none⟩ = some (.int .i64 dt) := rw3.out.cell 0
     have y2 : w3.cell? ⟨w1.heap.size, 1, none⟩ = some (.int .u16 di) := rw3.out.cell 1
     have y3 : w3.cell? ⟨w1.heap.size, 2, none⟩ = some (.int .i64 (dv + vb)) := rw3.out.cell 2
     have y4 : w3.cell? ⟨w1.heap.size, 3, none⟩ = some (.string ds) := rw3.out.cell 3
     have hnok : Hid (RowOk ⟨⟨dt, di⟩, dv + vb, ds⟩) := ⟨hok'.out.key, (by rcases hfo.out with ⟨h1, h2, _⟩ | ⟨_, h, _⟩ | ⟨_, h, _⟩; (· show I64 (dv + vb); unfold I64; omega); (· rw [hfi.out] at h; cases h); (· rw [hfi.out] at h; cases h)), hok'.out.note⟩
     have hpu := Lib.hid (fun u (hu : Below w3.heap.size w3 u) => put_any tq tn tc bs (some A) n c l dt di (dv + vb) (ds) u ((hs'.out.below b3.out (Nat.le_refl _)).below hu (Nat.le_refl _)) ((hr'.out.below b3.out (Nat.le_refl _)).below hu (Nat.le_refl _)) hnok.out)
     have hs4 := sizeRow dt di (dv + vb) (ds)
     go_wp2
     go_region_held3 (fun u => u.cell? ⟨g, 0, none⟩ = some (.slice tq tn tc) ∧ u.cell? ⟨w1.heap.size, 0, none⟩ = some (.int .i64 dt) ∧ u.cell? ⟨w1.heap.size, 1, none⟩ = some (.int .u16 di) ∧ u.cell? ⟨w1.heap.size, 2, none⟩ = some (.int .i64 (dv + vb)) ∧ u.cell? ⟨w1.heap.size, 3, none⟩ = some (.string (ds)) ∧ Below w3.heap.size w3 u)
      (first | exact ⟨y0, y1, y2, y3, y4, below_drew _⟩ | (go_split_ands; exact ⟨cell_keeps hq0.out (Nat.le_refl _) (by assumption), cell_keeps hq0.out (Nat.le_refl _) (by assumption), cell_keeps hq0.out (Nat.le_refl _) (by assumption), cell_keeps hq0.out (Nat.le_refl _) (by assumption), cell_keeps hq0.out (Nat.le_refl _) (by assumption), below_step hq0.out (by assumption)⟩) | go_keep)
      (first | (go_at_call 88; refine (hpu.out _ (by go_split_ands; first | assumption | exact below_drew _)).mono ?_; rintro e z0 ⟨q5, m5, c5, rfl, hr5, hb, ho5⟩; have hq0 := Lib.hid hb; have hr5 := Lib.hid hr5; have ho5 := Lib.hid ho5; clear hb))
     have hv : Hid (Below w3.heap.size w3 z0) := by
      show Below _ _ _
      go_split_ands
      assumption
     clear y0 y1 y2 y3 y4
     go_wp2
     go_ret2
     refine ⟨q5, m5, c5, ret_si (by rw [hres.out]), ?_, b3.out.trans (hv.out.mono b3.out.size)⟩
     · rw [hres.out]; exact ⟨ho5.out, hr5.out.ok⟩
   | false =>
     have hres : Hid (becR bs l ⟨t, id⟩ (erPlus vb) (nwPlus vb) = (152, [])) := by show _ = _; rw [hres0.out]; unfold erPlus; simp only [hfi.out]; rfl
     clear hres0
     go_wp2_with (first
      | (with_reducible refine wpList_load_at rfl 68 (.tmp 24) rfl Try.underlying68 rfl hs3 rfl hcell.out ?_)
      | (go_at_call 96
         have hpc := plus1_any p w1.heap.size vb dt di dv ds W2 (cell_keeps b2.out (Nat.le_refl _) hpp.out.1) rw2.out hok'.out.val hvb
         rw [hfi.out] at hpc
         simp only [Bool.false_eq_true, if_false] at hpc
         refine hpc.mono ?_
         rintro e w3 ⟨rfl, hrow, hgr⟩
         have rw3 := Lib.hid hrow
         have b3 := Lib.hid (b2.out.grown hgr b2.out.size (fun k hk => by cases hk; exact hsz2.out))
         clear hrow hgr))
     go_ret2
     exact ⟨none, 0, 0, ret_si (by rw [hres.out]), by rw [hres.out]; exact OwnL.none_ _, b3.out⟩
end Go.Proofs.Ytkdkncbccofpdaa
