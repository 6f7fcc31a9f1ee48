/- The reader of codec: what a content has, by its Kind. -/
import Derived.Test.YtcniolmihpkmmaaKLk
namespace Go.Proofs.Ytcniolmihpkmmaa
open Go.RowKit

structure ContD where
  kind : Int
  rows : List RowD
  kids : List KidD
/-- a content, by its kind and its two slices -/
structure ContOn (w : World) (k : Int) (rq : Option Addr) (rn rc : Nat) (kq : Option Addr) (kn kc : Nat) (c : ContD) : Prop where
  kind : k = c.kind
  rows : RowsOn w rq rn rc c.rows
  kids : KidsOn w kq kn kc c.kids
theorem ContOn.below {B : Nat} {w w' : World} {k : Int} {rq kq : Option Addr} {rn rc kn kc : Nat} {c : ContD} (h : ContOn w k rq rn rc kq kn kc c) (hb : Below B w w') (hB : w.heap.size ≤ B) : ContOn w' k rq rn rc kq kn kc c := ⟨h.kind, h.rows.below hb hB, h.kids.below hb hB⟩
theorem ContOn.gr {w w' : World} {k : Int} {rq kq : Option Addr} {rn rc kn kc g : Nat} {c : ContD} (h : ContOn w k rq rn rc kq kn kc c) (hg : w.grownBy w' (some g)) (h1 : ∀ a, rq = some a → a.block ≠ g) (h2 : ∀ a, kq = some a → a.block ≠ g) : ContOn w' k rq rn rc kq kn kc c := ⟨h.kind, h.rows.gr hg h1, h.kids.gr hg h2⟩
def zeroC : ContD := ⟨0, [], []⟩
theorem cont_one (k : Int) (rq : Option Addr) (rn rc : Nat) (kq : Option Addr) (kn kc : Nat) : ∀ v ∈ ([.int .i64 k, .slice rq rn rc, .slice kq kn kc] : List Value), v.oneCell' = true := by
  intro v hv
  simp only [List.mem_cons, List.not_mem_nil, or_false] at hv
  rcases hv with rfl | rfl | rfl <;> rfl
/-- what lies in new memory, or nowhere -/
def Far (B : Nat) (q : Option Addr) : Prop := ∀ a, q = some a → B ≤ a.block
theorem Far.none_ (B : Nat) : Far B none := fun a h => by cases h

def freeP (s : St) : ContD × Int × St := (zeroC, 0, s)
def leafP (s : St) : ContD × Int × St := (⟨1, (listR s).1, []⟩, (listR s).2.1, (listR s).2.2)
def innerP (s : St) : ContD × Int × St := (⟨2, [], (listK s).1⟩, (listK s).2.1, (listK s).2.2)
def ContRd (p : ContD × Int × St) (w : World) (g : Nat) (d : Option Nat) (e : Ending) (w' : World) : Prop :=
  ∃ c er s' k rq rn rc kq kn kc, p = (c, er, s') ∧ e = .returned (.tuple #[.agg #[.int .i64 k, .slice rq rn rc, .slice kq kn kc], .int .i64 er]) ∧ ContOn w' k rq rn rc kq kn kc c ∧ Far w.heap.size rq ∧ Far w.heap.size kq ∧ w.grownBy w' (some g) ∧ RdrS w' g d s'

set_option maxRecDepth 100000 in
set_option maxHeartbeats 2000000 in
theorem free_rd (g : Nat) (d : Option Nat) (s : St) (w : World) (h : RdrS w g d s) :
    Calls Try.prog 62 #[.agg #[.pointer (some ⟨g, 0, none⟩)]] w (ContRd (freeP s) w g d) := by
  have hb : Hid (Below w.heap.size w ((w.alloc (.cells #[.pointer (some ⟨g, 0, none⟩)] 73)).alloc (.cells #[.int .i64 0, .slice none 0 0, .slice none 0 0] 27))) := ((Below.refl _ _).alloc (Nat.le_refl _) _).alloc (by simp) _
  have hr := Lib.hid (h.below hb.out)
  clear h
  go_enter Try.func62, Try.ntmps62
  go_wp2
  exact bodyPost_ret (v := .tuple #[.agg #[.int .i64 0, .slice none 0 0, .slice none 0 0], .int .i64 0]) (by simp [results, Try.results62, go_sem]) rfl ⟨zeroC, 0, s, 0, none, 0, 0, none, 0, 0, rfl, rfl, ⟨rfl, RowsOn.none_ _, KidsOn.none_ _⟩, Far.none_ _, Far.none_ _, below_grown hb.out _, hr.out⟩

set_option maxRecDepth 100000 in
set_option maxHeartbeats 2000000 in
theorem leaf_rd (g : Nat) (d : Option Nat) (s : St) (w : World) (h : RdrS w g d s) :
    Calls Try.prog 63 #[.agg #[.pointer (some ⟨g, 0, none⟩)]] w (ContRd (leafP s) w g d) := by
  obtain ⟨W, hW⟩ : ∃ W, (w.alloc (.cells #[.pointer (some ⟨g, 0, none⟩)] 73)).alloc (.cells #[.int .i64 0, .slice none 0 0, .slice none 0 0] 27) = W := ⟨_, rfl⟩
  have hbx := Lib.hid (two_boxes (xs := [.pointer (some ⟨g, 0, none⟩)]) (ys := [.int .i64 0, .slice none 0 0, .slice none 0 0]) hW)
  have hres : Hid (RowV 27 W (w.heap.size + 1) [.int .i64 0, .slice none 0 0, .slice none 0 0]) := by
    have h0 := RowV.made (T := 27) (w.alloc (.cells #[.pointer (some ⟨g, 0, none⟩)] 73)) [.int .i64 0, .slice none 0 0, .slice none 0 0]
    show RowV _ _ _ _
    rw [← hW]; simpa using h0
  have hg := h.lt
  have hsrc := Lib.hid h.src
  have hr := Lib.hid (h.below hbx.out.1)
  have hs1 := sizeRd (.pointer (some ⟨g, 0, none⟩))
  clear h
  go_enter Try.func63, Try.ntmps63
  go_wp2_with (first
    | (with_reducible refine wpList_load_at rfl 73 (.tmp 1) rfl Try.underlying73 rfl hs1 rfl hbx.out.2.1.all ?_))
  clear hW
  refine (listR_rd g d s W hr.out).mono ?_
  rintro e w1 ⟨L, er, s', q, n, c, hl, rfl, hon, hg1, hr1, hfar⟩
  have hl' := Lib.hid hl
  have hon' := Lib.hid hon
  have hgr := Lib.hid (Gr.after hbx.out.1 hg1)
  have hres1 := Lib.hid (hres.out.gr hg1 (by omega))
  have hr1' := Lib.hid hr1
  have hfar' := Lib.hid hfar
  clear hl hon hg1 hr1 hfar
  have hs2 := sizeCont (.int .i64 1) (.slice q n c) (.slice none 0 0)
  go_wp2_with (first
    | ((with_reducible refine wpList_store_at rfl 27 (.tmp 2) (.tmp 14) rfl (o := 0) (vs := [.int .i64 1, .slice q n c, .slice none 0 0]) rfl rfl hres1.out hs2 (Nat.le_refl _) (cont_one _ _ _ _ _ _ _) ?_)
       intro w9 h9 hg9
       have q9 := Lib.hid h9
       have hg9' := Lib.hid hg9
       clear h9 hg9))
  have s9 : RowV 27 w9 (w.heap.size + 1) [.int .i64 1, .slice q n c, .slice none 0 0] := q9.out
  have m0 := s9.cell 0
  have m1 := s9.cell 1
  have m2 := s9.cell 2
  simp only [List.getElem?_cons_zero, List.getElem?_cons_succ] at m0 m1 m2
  refine bodyPost_ret (v := .tuple #[.agg #[.int .i64 1, .slice q n c, .slice none 0 0], .int .i64 er]) (by simp [results, Try.results63, go_sem, m0, m1, m2]) rfl ?_
  have hne : Hid (∀ a, q = some a → a.block ≠ w.heap.size + 1) := fun a ha => by have := hfar'.out a ha; have := hbx.out.2.2.2; omega
  exact ⟨⟨1, L, []⟩, er, s', 1, q, n, c, none, 0, 0, by unfold leafP; rw [hl'.out], rfl, ⟨rfl, hon'.out.gr hg9'.out hne.out, KidsOn.none_ _⟩, (fun a ha => by have := hfar'.out a ha; have := hbx.out.1.size; omega), Far.none_ _, Gr.own hgr.out hg9'.out (by omega), hr1'.out.keep hg9'.out (by omega) (fun e => by have := hsrc.out _ e; omega)⟩

set_option maxRecDepth 100000 in
set_option maxHeartbeats 2000000 in
theorem inner_rd (g : Nat) (d : Option Nat) (s : St) (w : World) (h : RdrS w g d s) :
    Calls Try.prog 64 #[.agg #[.pointer (some ⟨g, 0, none⟩)]] w (ContRd (innerP s) w g d) := by
  obtain ⟨W, hW⟩ : ∃ W, (w.alloc (.cells #[.pointer (some ⟨g, 0, none⟩)] 73)).alloc (.cells #[.int .i64 0, .slice none 0 0, .slice none 0 0] 27) = W := ⟨_, rfl⟩
  have hbx := Lib.hid (two_boxes (xs := [.pointer (some ⟨g, 0, none⟩)]) (ys := [.int .i64 0, .slice none 0 0, .slice none 0 0]) hW)
  have hres : Hid (RowV 27 W (w.heap.size + 1) [.int .i64 0, .slice none 0 0, .slice none 0 0]) := by
    have h0 := RowV.made (T := 27) (w.alloc (.cells #[.pointer (some ⟨g, 0, none⟩)] 73)) [.int .i64 0, .slice none 0 0, .slice none 0 0]
    show RowV _ _ _ _
    rw [← hW]; simpa using h0
  have hg := h.lt
  have hsrc := Lib.hid h.src
  have hr := Lib.hid (h.below hbx.out.1)
  have hs1 := sizeRd (.pointer (some ⟨g, 0, none⟩))
  clear h
  go_enter Try.func64, Try.ntmps64
  go_wp2_with (first
    | (with_reducible refine wpList_load_at rfl 73 (.tmp 1) rfl Try.underlying73 rfl hs1 rfl hbx.out.2.1.all ?_))
  clear hW
  refine (listK_rd g d s W hr.out).mono ?_
  rintro e w1 ⟨L, er, s', q, n, c, hl, rfl, hon, hg1, hr1, hfar⟩
  have hl' := Lib.hid hl
  have hon' := Lib.hid hon
  have hgr := Lib.hid (Gr.after hbx.out.1 hg1)
  have hres1 := Lib.hid (hres.out.gr hg1 (by omega))
  have hr1' := Lib.hid hr1
  have hfar' := Lib.hid hfar
  clear hl hon hg1 hr1 hfar
  have hs2 := sizeCont (.int .i64 2) (.slice none 0 0) (.slice q n c)
  go_wp2_with (first
    | ((with_reducible refine wpList_store_at rfl 27 (.tmp 2) (.tmp 14) rfl (o := 0) (vs := [.int .i64 2, .slice none 0 0, .slice q n c]) rfl rfl hres1.out hs2 (Nat.le_refl _) (cont_one _ _ _ _ _ _ _) ?_)
       intro w9 h9 hg9
       have q9 := Lib.hid h9
       have hg9' := Lib.hid hg9
       clear h9 hg9))
  have s9 : RowV 27 w9 (w.heap.size + 1) [.int .i64 2, .slice none 0 0, .slice q n c] := q9.out
  have m0 := s9.cell 0
  have m1 := s9.cell 1
  have m2 := s9.cell 2
  simp only [List.getElem?_cons_zero, List.getElem?_cons_succ] at m0 m1 m2
  refine bodyPost_ret (v := .tuple #[.agg #[.int .i64 2, .slice none 0 0, .slice q n c], .int .i64 er]) (by simp [results, Try.results64, go_sem, m0, m1, m2]) rfl ?_
  have hne : Hid (∀ a, q = some a → a.block ≠ w.heap.size + 1) := fun a ha => by have := hfar'.out a ha; have := hbx.out.2.2.2; omega
  exact ⟨⟨2, [], L⟩, er, s', 2, none, 0, 0, q, n, c, by unfold innerP; rw [hl'.out], rfl, ⟨rfl, RowsOn.none_ _, hon'.out.gr hg9'.out hne.out⟩, Far.none_ _, (fun a ha => by have := hfar'.out a ha; have := hbx.out.1.size; omega), Gr.own hgr.out hg9'.out (by omega), hr1'.out.keep hg9'.out (by omega) (fun e => by have := hsrc.out _ e; omega)⟩
end Go.Proofs.Ytcniolmihpkmmaa
