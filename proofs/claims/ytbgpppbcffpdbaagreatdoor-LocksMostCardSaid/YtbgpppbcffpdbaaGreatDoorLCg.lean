/- changed of locks, with what Ask does to a queue. -/
import Derived.Test.YtbgpppbcffpdbaaGreatDoorLCm
import Derived.Test.YtbgpppbcffpdbaaGreatDoorLAk
namespace Go.Proofs.YtbgpppbcffpdbaaGreatDoor
open Go.RowKit

def lo_ok (lo G : Nat) : Prop := lo ≤ G
/-- what a closure does to a queue of the call's own -/
def DoIt (F : FuncId) (cap : Nat) (L : List QueD) (r : ResD) (f : QueD → QueD) (w : World) : Prop :=
  ∀ (u : World) (lo G m c' i : Nat) (V1 : List QV) (v : QV) (d : QueD), Below w.heap.size w u → w.heap.size ≤ lo → lo ≤ u.heap.size → OwnS 43 u lo (.slice (some ⟨G, 0, none⟩) m c') V1 → V1[i]? = some v → QO u lo v d → G ∉ hbs v → (hbs v).Nodup → (d ∈ L ∨ d = ⟨r, [], []⟩) →
    Calls Tryz.prog F #[.pointer (some ⟨G, i * 5, none⟩), .pointer (some ⟨cap, 0, none⟩)] u (DoPost lo G m c' i V1 v (f d) u)
theorem LkW.gr2 {w w' : World} {lo g n c : Nat} {q : Option Addr} {V : List QV} {L : List QueD} (h : LkW w lo q n c V L) (hg : w.grownBy w' (some g)) (hq : ∀ a, q = some a → a.block ≠ g) (hb : g ∉ bl V) : LkW w' lo q n c V L := by
  have hf : Fr (fun k => k = g) w w' := Fr.of_grown hg (fun k e => by cases e; rfl)
  exact ⟨h.row.fr hf hq, h.len, fun i v d h1 h2 => (h.on i v d h1 h2).fr hf (fun b hbb e => hb (by rw [← e]; exact bl_mem h1 hbb)), h.nd, h.ne⟩
theorem below_grown2 {B : Nat} {u v : World} {q : Option Addr} (h : u.grownBy v (q.map (·.block))) (hB : B ≤ u.heap.size) (hq : ∀ a, q = some a → B ≤ a.block) : Below B u v :=
  ⟨h.os, h.tape, h.output, h.size, fun k hk => h.block k (by omega) (fun e => by
    cases q with
    | none => cases e
    | some a => have e2 : k = a.block := by simpa using e
                have := hq a rfl
                omega)⟩
theorem LkW.gr {w w' : World} {lo g n c : Nat} {q : Option Addr} {V : List QV} {L : List QueD} (h : LkW w lo q n c V L) (hg : w.grownBy w' (some g)) (hlo : g < lo) : LkW w' lo q n c V L := by
  have hf : Fr (fun k => k = g) w w' := Fr.of_grown hg (fun k e => by cases e; rfl)
  exact ⟨h.row.fr hf (fun a ha e => by have := (h.row.far a ha).1; omega), h.len, fun i v d h1 h2 => (h.on i v d h1 h2).fr hf (fun b hb e => by have := ((h.on i v d h1 h2).lt b hb).1; omega), h.nd, h.ne⟩

set_option maxRecDepth 100000 in
set_option maxHeartbeats 2000000 in
theorem changed1_any (cap : Nat) (q : Option Addr) (n c : Nat) (V : List QV) (L : List QueD) (rt : Int) (rk : Bool) (ri : Int) (f : QueD → QueD) (w : World) (h : LkOn w q n c V L) (hsm : Sm L) (hn6 : n ≤ 900000) (hso : SortQ L) (g0 : 0 ≤ ri) (g1 : ri < 65536)
    (hdo : DoIt 69 cap L ⟨rt, rk, ri⟩ f w) :
    Calls Tryz.prog 68 #[.agg #[.slice q n c], .agg #[.int .i64 rt, .bool rk, .int .u16 ri], .func (.func 69) #[] #[.pointer (some ⟨cap, 0, none⟩)]] w (ChPost (chgL L ⟨rt, rk, ri⟩ f) w) := by
  obtain ⟨W0, hW0⟩ : ∃ W, w.alloc (.cells #[.slice q n c] 24) = W := ⟨_, rfl⟩
  have hb0 := Lib.hid (one_box (xs := [.slice q n c]) hW0)
  obtain ⟨W1, hW1⟩ : ∃ W, W0.alloc (.cells #[.int .i64 rt, .bool rk, .int .u16 ri] 30) = W := ⟨_, rfl⟩
  have hb1 := Lib.hid (one_box (xs := [.int .i64 rt, .bool rk, .int .u16 ri]) hW1)
  obtain ⟨W, hW⟩ : ∃ W, W1.alloc (.cells #[.slice none 0 0] 24) = W := ⟨_, rfl⟩
  have hb2 := Lib.hid (one_box (xs := [.slice none 0 0]) hW)
  have hr2 : Hid (RowV 24 W W1.heap.size [.slice none 0 0]) := RowV.made' (cs := [.slice none 0 0]) hW
  have hs0 : Hid (W0.heap.size = w.heap.size + 1) := hb0.out.2.2
  have hs1 : Hid (W1.heap.size = w.heap.size + 2) := by show _ = _; have h1 := hb1.out.2.2; have h2 := hs0.out; omega
  have hs2 : Hid (W.heap.size = w.heap.size + 3) := by show _ = _; have h1 := hb2.out.2.2; have h2 := hs1.out; omega
  have hb12 := Lib.hid (below_step hb2.out.1 hb1.out.1)
  have hbW := Lib.hid (below_step hb12.out hb0.out.1)
  have x0 := Lib.hid (hb0.out.2.1.below hb12.out (Nat.le_refl _))
  have x1 := Lib.hid (hb1.out.2.1.below hb2.out.1 (Nat.le_refl _))
  have hh := Lib.hid (h.below hbW.out (Nat.le_refl _))
  have hl := Lib.hid h.len
  have hc := Lib.hid (cloned_any q n c V L W hh.out hsm (by omega))
  have s1 := sizeLks (.slice q n c)
  have s3 := sizeRes (.int .i64 rt) (.bool rk) (.int .u16 ri)
  have hdo' := Lib.hid hdo
  have hso' := Lib.hid hso
  have hn6' := Lib.hid hn6
  clear h hsm hdo hso hn6
  go_enter Tryz.func68, Tryz.ntmps68
  go_wp2_with (first
    | (with_reducible refine wpList_load_at rfl 24 (.tmp 3) rfl Tryz.underlying24 rfl s1 rfl x0.out.all ?_))
  clear hW hW1 hW0
  refine hc.out.mono ?_
  rintro e w1 ⟨q1, n1, c1, V1, rfl, hlk, hb⟩
  obtain rfl : n = n1 := by have h1 := hlk.len; have h2 := hl.out; omega
  have hbw1 := Lib.hid (below_step hb hbW.out)
  have hlk1 := Lib.hid hlk
  have y1 := Lib.hid (x1.out.below hb (Nat.le_refl _))
  have r1 := Lib.hid (hr2.out.below hb)
  have hz1 : Hid (W.heap.size ≤ w1.heap.size) := hb.size
  clear hlk hb hc
  obtain ⟨WB, hWB⟩ : ∃ WB, w1.alloc (.cells #[.slice q1 n c1] 24) = WB := ⟨_, rfl⟩
  have hb3 := Lib.hid (one_box (xs := [.slice q1 n c1]) hWB)
  have hrB : Hid (RowV 24 WB w1.heap.size [.slice q1 n c1]) := RowV.made' (cs := [.slice q1 n c1]) hWB
  have hsB : Hid (WB.heap.size = w1.heap.size + 1) := hb3.out.2.2
  have hbwB := Lib.hid (below_step hb3.out.1 hbw1.out)
  have y2 := Lib.hid (y1.out.below hb3.out.1 (Nat.le_refl _))
  have r2 := Lib.hid (r1.out.below hb3.out.1)
  have hlkB := Lib.hid (hlk1.out.below hb3.out.1)
  have hfarB := Lib.hid hlk1.out.lt
  have hfarQ : Hid (∀ a, q1 = some a → a.block < w1.heap.size) := fun a ha => (hlk1.out.row.far a ha).2
  have hpl := Lib.hid (place_any q1 n c1 V1 L rt rk ri WB hlkB.out.lk hso'.out (by have := hn6'.out; omega) g0 g1)
  have t1 := sizeLks (.slice q1 n c1)
  go_wp2_with (first
    | (with_reducible refine wpList_load_at rfl 24 (.tmp 7) rfl Tryz.underlying24 rfl t1 rfl hb3.out.2.1.all ?_)
    | (with_reducible refine wpList_load_at rfl 30 (.tmp 4) rfl Tryz.underlying30 rfl s3 rfl y2.out.all ?_))
  clear hWB
  have hpn := posQ_le L ⟨rt, rk, ri⟩
  obtain ⟨p, hp⟩ : ∃ p, posQ L ⟨rt, rk, ri⟩ = p := ⟨_, rfl⟩
  obtain ⟨T, hT⟩ : ∃ T, thereQ L ⟨rt, rk, ri⟩ = T := ⟨_, rfl⟩
  have hch : Hid (chgL L ⟨rt, rk, ri⟩ f = if T = true then L.set p (f (qOf L ⟨rt, rk, ri⟩)) else L.take p ++ f ⟨⟨rt, rk, ri⟩, [], []⟩ :: L.drop p) := by show _ = _; unfold chgL; rw [hp, hT]
  rw [hp, hT] at hpl
  rw [hp] at hpn
  have hT' := Lib.hid hT
  have hp' := Lib.hid hp
  clear hp hT
  refine hpl.out.mono ?_
  rintro e w2 ⟨rfl, hb⟩
  have hb4 := Lib.hid hb
  have hbw2 := Lib.hid (below_step hb hbwB.out)
  have y3 := Lib.hid (y2.out.below hb (Nat.le_refl _))
  have r3 := Lib.hid (r2.out.below hb)
  have hrB3 := Lib.hid (hrB.out.below hb)
  have hlk3 := Lib.hid (hlkB.out.below hb)
  have hz2 : Hid (WB.heap.size ≤ w2.heap.size) := hb.size
  clear hb hpl
  have p0 : (0 : Int) ≤ p := by omega
  have hpn' : Hid (p ≤ n) := by show _ ≤ _; have := hl.out; omega
  cases T with
  | true =>
    obtain ⟨d, hd1, hd2, hd3⟩ := there_some hT'.out
    rw [hp'.out] at hd1
    have hplt : p < n := by have h1 := (List.getElem?_eq_some_iff.1 hd1).1; have h2 := hl.out; omega
    have p1 : (p : Int) < n := by omega
    have hvl := hlk3.out.vlen
    obtain ⟨v, hv⟩ : ∃ v, V1[p]? = some v := ⟨_, List.getElem?_eq_getElem (by omega)⟩
    cases q1 with
    | none => exact absurd (OwnS.nil_cap hlk3.out.row).1 (by omega)
    | some ad =>
    obtain ⟨G, cur, rfl, _⟩ := openedQ hlk3.out.row
    have hG : Hid (G < w1.heap.size) := hfarQ.out _ rfl
    have hcall := Lib.hid (hdo'.out w2 W.heap.size G n c1 p V1 v d hbw2.out hbW.out.size (by have h1 := hz1.out; have h2 := hz2.out; have h3 := hsB.out; omega) hlk3.out.row hv (hlk3.out.on p v d hv hd1) (fun hm => hlk3.out.ne _ rfl (bl_mem hv hm)) (by have h1 := hlk3.out.nd; rw [bl_split hv] at h1; exact (List.nodup_append.1 (List.nodup_append.1 h1).2.1).1) (.inl (List.mem_of_getElem? hd1)))
    have hv' := Lib.hid hv
    have hd1' := Lib.hid hd1
    have hd3' := Lib.hid hd3
    have k0 := hrB3.out.cell 0
    simp only [List.getElem?_cons_zero] at k0
    clear hv hd1 hd2 hd3 hvl hT'
    have t2 := sizeLks (.slice (some ⟨G, 0, none⟩) n c1)
    have hone : ∀ y ∈ ([.slice (some ⟨G, 0, none⟩) n c1] : List Value), y.oneCell' = true := fun y hy => by obtain rfl := List.mem_singleton.1 hy; rfl
    go_wp2_with (first
      | (go_at_call 69
         refine hcall.out.mono ?_
         rintro e w5 ⟨v', rfl, a1, a2, a3, a4, a5⟩
         have hlk5 : Hid (LkW w5 W.heap.size (some ⟨G, 0, none⟩) n c1 (V1.set p v') (L.set p (f d))) := hlk3.out.did hv'.out hd1'.out a1 a2 a3 a4 a5
         have hno : Hid (∀ k, w1.heap.size ≤ k ∨ k = W1.heap.size → ¬ (k = G ∨ k ∈ hbs v)) := by
           refine Lib.hid ?_
           intro k hk hm
           have h1 := hG.out
           have h2 : lo_ok W.heap.size G := (hlk3.out.row.far _ rfl).1
           have h3 := hs2.out
           have h4 := hs1.out
           rcases hm with hm | hm
           · unfold lo_ok at h2; omega
           · have h5 := hfarB.out k (bl_mem hv'.out hm)
             have h6 := ((hlk3.out.on p v d hv'.out hd1'.out).lt k hm).1
             omega
         have hrB5 : Hid (RowV 24 w5 w1.heap.size [.slice (some ⟨G, 0, none⟩) n c1]) := hrB3.out.block (a5.block _ hrB3.out.lt (hno.out _ (.inl (Nat.le_refl _))))
         have r5 : Hid (RowV 24 w5 W1.heap.size [.slice none 0 0]) := r3.out.block (a5.block _ r3.out.lt (hno.out _ (.inr rfl)))
         have hbw5 : Hid (Below w.heap.size w w5) := hbw2.out.trans (a5.below hbw2.out.size (fun k hk => by
           have h2 : lo_ok W.heap.size G := (hlk3.out.row.far _ rfl).1
           have h3 := hs2.out
           rcases hk with hk | hk
           · unfold lo_ok at h2; omega
           · have h6 := ((hlk3.out.on p v d hv'.out hd1'.out).lt k hk).1; omega))
         clear a1 a2 a3 a4 a5 hcall k0)
      | (with_reducible refine wpList_load_at rfl 24 (.tmp 7) rfl Tryz.underlying24 rfl t2 rfl hrB5.out.boxed.all ?_)
      | ((with_reducible refine wpList_store_at rfl 24 (.tmp 6) (.tmp 34) rfl (o := 0) (vs := [.slice (some ⟨G, 0, none⟩) n c1]) rfl rfl r5.out t2 (Nat.le_refl _) hone ?_)
         intro w9 h9 hg9
         have q9 : Hid (RowV 24 w9 W1.heap.size [.slice (some ⟨G, 0, none⟩) n c1]) := h9
         have hg9' := Lib.hid hg9
         clear h9 hg9))
    have m0 := q9.out.cell 0
    simp only [List.getElem?_cons_zero] at m0
    have hfin : Below w.heap.size w w9 := low_step hbw5.out hg9'.out (by have := hs1.out; omega)
    refine bodyPost_ret (v := .agg #[.slice (some ⟨G, 0, none⟩) n c1]) (by simp [results, Tryz.results68, go_sem, m0]) rfl ⟨_, n, c1, V1.set p v', rfl, ?_, hfin⟩
    rw [hch.out, if_pos (by trivial), hd3'.out]
    exact (hlk5.out.gr hg9'.out (by have := hs1.out; have := hs2.out; omega)).mono (by have := hs2.out; omega)
  | false =>
    have k0 := hrB3.out.cell 0
    simp only [List.getElem?_cons_zero] at k0
    obtain ⟨W3, hW3⟩ : ∃ W3, w2.alloc (.cells #[.int .i64 rt, .bool rk, .int .u16 ri, .slice none 0 0, .slice none 0 0] 43) = W3 := ⟨_, rfl⟩
    have hb5 := Lib.hid (one_box (xs := [.int .i64 rt, .bool rk, .int .u16 ri, .slice none 0 0, .slice none 0 0]) hW3)
    have hrv : RowV 43 W3 w2.heap.size (Cel.cells (qNew ⟨rt, rk, ri⟩)) := RowV.made' hW3
    have hz3 : Hid (w1.heap.size < w2.heap.size ∧ W.heap.size ≤ w1.heap.size ∧ w2.heap.size < W3.heap.size) := ⟨by have h1 := hz2.out; have h2 := hsB.out; omega, hz1.out, by have := hb5.out.2.2; omega⟩
    have hlk4 := Lib.hid (hlk3.out.below hb5.out.1)
    have hrB4 := Lib.hid (hrB3.out.below hb5.out.1)
    have r4 := Lib.hid (r3.out.below hb5.out.1)
    have hbw3 := Lib.hid (below_step hb5.out.1 hbw2.out)
    have hin := Lib.hid (insert_finQ W.heap.size q1 n c1 p w2.heap.size V1 (qNew ⟨rt, rk, ri⟩) W3 hpn'.out (by have := hn6'.out; omega) (by have := hz3.out; omega) hlk4.out.row hrv (fun a ha => by have h1 := hfarQ.out a ha; have := hz3.out; omega))
    have hQlo : Hid (∀ a, q1 = some a → W.heap.size ≤ a.block) := fun a ha => (hlk3.out.row.far a ha).1
    have hok : Hid ((⟨rt, rk, ri⟩ : ResD).ok) := ⟨g0, g1⟩
    have p1 : (p : Int) < n + 1 := by have := hpn'.out; omega
    clear hrv hT'
    go_wp2_with (first
      | (with_reducible refine wpList_load_at rfl 30 (.tmp 4) rfl Tryz.underlying30 rfl s3 rfl y3.out.all ?_))
    refine hin.out.mono ?_
    rintro e w4 ⟨q4, c4, rfl, a1, a2, a3⟩
    obtain ⟨ad, rfl⟩ : ∃ ad, q4 = some ad := by
      cases q4 with
      | none => exact absurd (OwnS.nil_cap a1).1 (by omega)
      | some ad => exact ⟨ad, rfl⟩
    obtain ⟨G, cur, rfl, _⟩ := openedQ a1
    have hlk5 : Hid (LkW w4 W.heap.size (some ⟨G, 0, none⟩) (n + 1) c4 (V1.take p ++ qNew ⟨rt, rk, ri⟩ :: V1.drop p) (L.take p ++ ⟨⟨rt, rk, ri⟩, [], []⟩ :: L.drop p)) := hlk4.out.ins ⟨rt, rk, ri⟩ hok.out hpn'.out a1 a2 a3
    have hGn : Hid (G ≠ w1.heap.size) := by
      show G ≠ _
      rcases a3 _ rfl with ⟨a0, h1, h2⟩ | h1
      · have h3 := hfarQ.out a0 h1; have h4 : G = a0.block := h2; omega
      · have h3 : W3.heap.size ≤ G := h1; have := hz3.out; omega
    have hbV : Hid (bl (V1.take p ++ qNew ⟨rt, rk, ri⟩ :: V1.drop p) = bl V1) := by
      show _ = _
      have h7 : bl V1 = bl (V1.take p) ++ bl (V1.drop p) := by
        have h8 : bl (V1.take p ++ V1.drop p) = bl (V1.take p) ++ bl (V1.drop p) := by simp only [bl, List.flatMap_append]
        rw [List.take_append_drop] at h8
        exact h8
      have h9 : bl (V1.take p ++ qNew ⟨rt, rk, ri⟩ :: V1.drop p) = bl (V1.take p) ++ (hbs (qNew ⟨rt, rk, ri⟩) ++ bl (V1.drop p)) := by simp only [bl, List.flatMap_append, List.flatMap_cons]
      rw [h7, h9]; rfl
    have hne4 : ∀ k, w1.heap.size ≤ k ∨ k = W1.heap.size → k < W3.heap.size → ¬ some k = q1.map (·.block) := fun k hk hk2 e => by
      cases q1 with
      | none => cases e
      | some a =>
        have e2 : k = a.block := by simpa using e
        have h1 := hfarQ.out a rfl
        have h2 := hQlo.out a rfl
        have h3 := hs2.out
        have h4 := hs1.out
        omega
    have hrB5 : Hid (RowV 24 w4 w1.heap.size [.slice q1 n c1]) := hrB4.out.block (a2.block _ hrB4.out.lt (hne4 _ (.inl (Nat.le_refl _)) hrB4.out.lt))
    have r5 : Hid (RowV 24 w4 W1.heap.size [.slice none 0 0]) := r4.out.block (a2.block _ r4.out.lt (hne4 _ (.inr rfl) r4.out.lt))
    have hbw4 : Hid (Below w.heap.size w w4) := hbw3.out.trans (below_grown2 a2 hbw3.out.size (fun a ha => by have h2 := hQlo.out a ha; have h3 := hs2.out; omega))
    obtain ⟨w5, hw5⟩ : ∃ w5, w4.setCell ⟨w1.heap.size, 0, none⟩ (.slice (some ⟨G, 0, none⟩) (n + 1) c4) = w5 := ⟨_, rfl⟩
    have hg5 : Hid (w4.grownBy w5 (some w1.heap.size)) := by rw [← hw5]; exact setCell_grown w4 _ _ _
    have hrB6 : Hid (RowV 24 w5 w1.heap.size [.slice (some ⟨G, 0, none⟩) (n + 1) c4]) := by rw [← hw5]; exact hrB5.out.set 0 _
    have r6 : Hid (RowV 24 w5 W1.heap.size [.slice none 0 0]) := r5.out.kept hg5.out (by have h1 := hz3.out; have h2 := hs2.out; have h3 := hs1.out; omega)
    have hlk6 : Hid (LkW w5 W.heap.size (some ⟨G, 0, none⟩) (n + 1) c4 (V1.take p ++ qNew ⟨rt, rk, ri⟩ :: V1.drop p) (L.take p ++ ⟨⟨rt, rk, ri⟩, [], []⟩ :: L.drop p)) := hlk5.out.gr2 hg5.out (fun a ha => by cases ha; exact hGn.out) (by rw [hbV.out]; intro hm; have := hfarB.out _ hm; omega)
    have hbw5 : Hid (Below w.heap.size w w5) := low_step hbw4.out hg5.out (by have := hz3.out; have := hs2.out; omega)
    have hV6 : Hid ((V1.take p ++ qNew ⟨rt, rk, ri⟩ :: V1.drop p)[p]? = some (qNew ⟨rt, rk, ri⟩)) := by
      show _ = _
      have h1 := hlk3.out.vlen
      have h2 := hpn'.out
      rw [List.getElem?_append_right (by rw [List.length_take]; omega), List.length_take, Nat.min_eq_left (by omega), Nat.sub_self]; rfl
    have hL6 : Hid ((L.take p ++ (⟨⟨rt, rk, ri⟩, [], []⟩ : QueD) :: L.drop p)[p]? = some ⟨⟨rt, rk, ri⟩, [], []⟩) := by
      show _ = _
      rw [List.getElem?_append_right (by rw [List.length_take]; omega), List.length_take, Nat.min_eq_left (by omega), Nat.sub_self]; rfl
    have hcall := Lib.hid (hdo'.out w5 W.heap.size G (n + 1) c4 p _ (qNew ⟨rt, rk, ri⟩) ⟨⟨rt, rk, ri⟩, [], []⟩ hbw5.out hbW.out.size (by have h1 := hg5.out.size; have h2 := a2.size; have h3 := hz3.out; omega) hlk6.out.row hV6.out (hlk6.out.on p _ _ hV6.out hL6.out) (fun hm => by simp [hbs, qNew] at hm) (by simp [hbs, qNew]) (.inr rfl))
    have k4 := hrB5.out.cell 0
    have f4 := hrB5.out.free 0
    have k5 := hrB6.out.cell 0
    simp only [List.getElem?_cons_zero] at k4 k5
    have t2 := sizeLks (.slice (some ⟨G, 0, none⟩) (n + 1) c4)
    have hone : ∀ y ∈ ([.slice (some ⟨G, 0, none⟩) (n + 1) c4] : List Value), y.oneCell' = true := fun y hy => by obtain rfl := List.mem_singleton.1 hy; rfl
    have hG6 : Hid (W.heap.size ≤ G) := (hlk6.out.row.far _ rfl).1
    have hz5 : Hid (w1.heap.size < w5.heap.size) := hrB6.out.lt
    clear a1 a2 a3 hne4 k0 hin hW3
    go_wp2_with (first
      | (go_at_call 69
         refine hcall.out.mono ?_
         rintro e w6 ⟨v', rfl, b1, b2, b3, b4, b5⟩
         have hlk7 : Hid (LkW w6 W.heap.size (some ⟨G, 0, none⟩) (n + 1) c4 _ _) := hlk6.out.did hV6.out hL6.out b1 b2 b3 b4 b5
         have hno : Hid (∀ k, k = w1.heap.size ∨ k = W1.heap.size → ¬ (k = G ∨ k ∈ hbs (qNew ⟨rt, rk, ri⟩))) := by
           refine Lib.hid ?_
           intro k hk hm
           have h1 := hGn.out
           have h2 := hG6.out
           have h3 := hs2.out
           have h4 := hs1.out
           rcases hm with hm | hm
           · omega
           · simp [hbs, qNew] at hm
         have hrB7 : Hid (RowV 24 w6 w1.heap.size [.slice (some ⟨G, 0, none⟩) (n + 1) c4]) := hrB6.out.block (b5.block _ hrB6.out.lt (hno.out _ (.inl rfl)))
         have r7 : Hid (RowV 24 w6 W1.heap.size [.slice none 0 0]) := r6.out.block (b5.block _ r6.out.lt (hno.out _ (.inr rfl)))
         have hbw6 : Hid (Below w.heap.size w w6) := hbw5.out.trans (b5.below hbw5.out.size (fun k hk => by
           have h2 := hG6.out
           have h3 := hs2.out
           rcases hk with hk | hk
           · omega
           · simp [hbs, qNew] at hk))
         clear b1 b2 b3 b4 b5 hcall k4 f4 k5 hw5)
      | (with_reducible refine wpList_load_at rfl 24 (.tmp 7) rfl Tryz.underlying24 rfl t2 rfl hrB7.out.boxed.all ?_)
      | ((with_reducible refine wpList_store_at rfl 24 (.tmp 6) (.tmp 34) rfl (o := 0) (vs := [.slice (some ⟨G, 0, none⟩) (n + 1) c4]) rfl rfl r7.out t2 (Nat.le_refl _) hone ?_)
         intro w9 h9 hg9
         have q9 : Hid (RowV 24 w9 W1.heap.size [.slice (some ⟨G, 0, none⟩) (n + 1) c4]) := h9
         have hg9' := Lib.hid hg9
         clear h9 hg9))
    have m0 := q9.out.cell 0
    simp only [List.getElem?_cons_zero] at m0
    have hfin : Below w.heap.size w w9 := low_step hbw6.out hg9'.out (by have := hs1.out; omega)
    have h8 := (hlk7.out.gr hg9'.out (by have := hs1.out; have := hs2.out; omega)).mono (lo' := w.heap.size) (by have := hs2.out; omega)
    have e8 : (L.take p ++ (⟨⟨rt, rk, ri⟩, [], []⟩ : QueD) :: L.drop p).set p (f ⟨⟨rt, rk, ri⟩, [], []⟩) = chgL L ⟨rt, rk, ri⟩ f := by
      rw [hch.out, if_neg (by decide), List.set_append_right _ _ (by rw [List.length_take]; omega), List.length_take, Nat.min_eq_left (by omega), Nat.sub_self]; rfl
    rw [e8] at h8
    exact bodyPost_ret (v := .agg #[.slice (some ⟨G, 0, none⟩) (n + 1) c4]) (by simp [results, Tryz.results68, go_sem, m0]) rfl ⟨_, n + 1, c4, _, rfl, h8, hfin⟩

set_option maxRecDepth 100000 in
set_option maxHeartbeats 2000000 in
theorem changed2_any (cap : Nat) (q : Option Addr) (n c : Nat) (V : List QV) (L : List QueD) (rt : Int) (rk : Bool) (ri : Int) (f : QueD → QueD) (w : World) (h : LkOn w q n c V L) (hsm : Sm L) (hn6 : n ≤ 900000) (hso : SortQ L) (g0 : 0 ≤ ri) (g1 : ri < 65536)
    (hdo : DoIt 71 cap L ⟨rt, rk, ri⟩ f w) :
    Calls Tryz.prog 68 #[.agg #[.slice q n c], .agg #[.int .i64 rt, .bool rk, .int .u16 ri], .func (.func 71) #[] #[.pointer (some ⟨cap, 0, none⟩)]] w (ChPost (chgL L ⟨rt, rk, ri⟩ f) w) := by
  obtain ⟨W0, hW0⟩ : ∃ W, w.alloc (.cells #[.slice q n c] 24) = W := ⟨_, rfl⟩
  have hb0 := Lib.hid (one_box (xs := [.slice q n c]) hW0)
  obtain ⟨W1, hW1⟩ : ∃ W, W0.alloc (.cells #[.int .i64 rt, .bool rk, .int .u16 ri] 30) = W := ⟨_, rfl⟩
  have hb1 := Lib.hid (one_box (xs := [.int .i64 rt, .bool rk, .int .u16 ri]) hW1)
  obtain ⟨W, hW⟩ : ∃ W, W1.alloc (.cells #[.slice none 0 0] 24) = W := ⟨_, rfl⟩
  have hb2 := Lib.hid (one_box (xs := [.slice none 0 0]) hW)
  have hr2 : Hid (RowV 24 W W1.heap.size [.slice none 0 0]) := RowV.made' (cs := [.slice none 0 0]) hW
  have hs0 : Hid (W0.heap.size = w.heap.size + 1) := hb0.out.2.2
  have hs1 : Hid (W1.heap.size = w.heap.size + 2) := by show _ = _; have h1 := hb1.out.2.2; have h2 := hs0.out; omega
  have hs2 : Hid (W.heap.size = w.heap.size + 3) := by show _ = _; have h1 := hb2.out.2.2; have h2 := hs1.out; omega
  have hb12 := Lib.hid (below_step hb2.out.1 hb1.out.1)
  have hbW := Lib.hid (below_step hb12.out hb0.out.1)
  have x0 := Lib.hid (hb0.out.2.1.below hb12.out (Nat.le_refl _))
  have x1 := Lib.hid (hb1.out.2.1.below hb2.out.1 (Nat.le_refl _))
  have hh := Lib.hid (h.below hbW.out (Nat.le_refl _))
  have hl := Lib.hid h.len
  have hc := Lib.hid (cloned_any q n c V L W hh.out hsm (by omega))
  have s1 := sizeLks (.slice q n c)
  have s3 := sizeRes (.int .i64 rt) (.bool rk) (.int .u16 ri)
  have hdo' := Lib.hid hdo
  have hso' := Lib.hid hso
  have hn6' := Lib.hid hn6
  clear h hsm hdo hso hn6
  go_enter Tryz.func68, Tryz.ntmps68
  go_wp2_with (first
    | (with_reducible refine wpList_load_at rfl 24 (.tmp 3) rfl Tryz.underlying24 rfl s1 rfl x0.out.all ?_))
  clear hW hW1 hW0
  refine hc.out.mono ?_
  rintro e w1 ⟨q1, n1, c1, V1, rfl, hlk, hb⟩
  obtain rfl : n = n1 := by have h1 := hlk.len; have h2 := hl.out; omega
  have hbw1 := Lib.hid (below_step hb hbW.out)
  have hlk1 := Lib.hid hlk
  have y1 := Lib.hid (x1.out.below hb (Nat.le_refl _))
  have r1 := Lib.hid (hr2.out.below hb)
  have hz1 : Hid (W.heap.size ≤ w1.heap.size) := hb.size
  clear hlk hb hc
  obtain ⟨WB, hWB⟩ : ∃ WB, w1.alloc (.cells #[.slice q1 n c1] 24) = WB := ⟨_, rfl⟩
  have hb3 := Lib.hid (one_box (xs := [.slice q1 n c1]) hWB)
  have hrB : Hid (RowV 24 WB w1.heap.size [.slice q1 n c1]) := RowV.made' (cs := [.slice q1 n c1]) hWB
  have hsB : Hid (WB.heap.size = w1.heap.size + 1) := hb3.out.2.2
  have hbwB := Lib.hid (below_step hb3.out.1 hbw1.out)
  have y2 := Lib.hid (y1.out.below hb3.out.1 (Nat.le_refl _))
  have r2 := Lib.hid (r1.out.below hb3.out.1)
  have hlkB := Lib.hid (hlk1.out.below hb3.out.1)
  have hfarB := Lib.hid hlk1.out.lt
  have hfarQ : Hid (∀ a, q1 = some a → a.block < w1.heap.size) := fun a ha => (hlk1.out.row.far a ha).2
  have hpl := Lib.hid (place_any q1 n c1 V1 L rt rk ri WB hlkB.out.lk hso'.out (by have := hn6'.out; omega) g0 g1)
  have t1 := sizeLks (.slice q1 n c1)
  go_wp2_with (first
    | (with_reducible refine wpList_load_at rfl 24 (.tmp 7) rfl Tryz.underlying24 rfl t1 rfl hb3.out.2.1.all ?_)
    | (with_reducible refine wpList_load_at rfl 30 (.tmp 4) rfl Tryz.underlying30 rfl s3 rfl y2.out.all ?_))
  clear hWB
  have hpn := posQ_le L ⟨rt, rk, ri⟩
  obtain ⟨p, hp⟩ : ∃ p, posQ L ⟨rt, rk, ri⟩ = p := ⟨_, rfl⟩
  obtain ⟨T, hT⟩ : ∃ T, thereQ L ⟨rt, rk, ri⟩ = T := ⟨_, rfl⟩
  have hch : Hid (chgL L ⟨rt, rk, ri⟩ f = if T = true then L.set p (f (qOf L ⟨rt, rk, ri⟩)) else L.take p ++ f ⟨⟨rt, rk, ri⟩, [], []⟩ :: L.drop p) := by show _ = _; unfold chgL; rw [hp, hT]
  rw [hp, hT] at hpl
  rw [hp] at hpn
  have hT' := Lib.hid hT
  have hp' := Lib.hid hp
  clear hp hT
  refine hpl.out.mono ?_
  rintro e w2 ⟨rfl, hb⟩
  have hb4 := Lib.hid hb
  have hbw2 := Lib.hid (below_step hb hbwB.out)
  have y3 := Lib.hid (y2.out.below hb (Nat.le_refl _))
  have r3 := Lib.hid (r2.out.below hb)
  have hrB3 := Lib.hid (hrB.out.below hb)
  have hlk3 := Lib.hid (hlkB.out.below hb)
  have hz2 : Hid (WB.heap.size ≤ w2.heap.size) := hb.size
  clear hb hpl
  have p0 : (0 : Int) ≤ p := by omega
  have hpn' : Hid (p ≤ n) := by show _ ≤ _; have := hl.out; omega
  cases T with
  | true =>
    obtain ⟨d, hd1, hd2, hd3⟩ := there_some hT'.out
    rw [hp'.out] at hd1
    have hplt : p < n := by have h1 := (List.getElem?_eq_some_iff.1 hd1).1; have h2 := hl.out; omega
    have p1 : (p : Int) < n := by omega
    have hvl := hlk3.out.vlen
    obtain ⟨v, hv⟩ : ∃ v, V1[p]? = some v := ⟨_, List.getElem?_eq_getElem (by omega)⟩
    cases q1 with
    | none => exact absurd (OwnS.nil_cap hlk3.out.row).1 (by omega)
    | some ad =>
    obtain ⟨G, cur, rfl, _⟩ := openedQ hlk3.out.row
    have hG : Hid (G < w1.heap.size) := hfarQ.out _ rfl
    have hcall := Lib.hid (hdo'.out w2 W.heap.size G n c1 p V1 v d hbw2.out hbW.out.size (by have h1 := hz1.out; have h2 := hz2.out; have h3 := hsB.out; omega) hlk3.out.row hv (hlk3.out.on p v d hv hd1) (fun hm => hlk3.out.ne _ rfl (bl_mem hv hm)) (by have h1 := hlk3.out.nd; rw [bl_split hv] at h1; exact (List.nodup_append.1 (List.nodup_append.1 h1).2.1).1) (.inl (List.mem_of_getElem? hd1)))
    have hv' := Lib.hid hv
    have hd1' := Lib.hid hd1
    have hd3' := Lib.hid hd3
    have k0 := hrB3.out.cell 0
    simp only [List.getElem?_cons_zero] at k0
    clear hv hd1 hd2 hd3 hvl hT'
    have t2 := sizeLks (.slice (some ⟨G, 0, none⟩) n c1)
    have hone : ∀ y ∈ ([.slice (some ⟨G, 0, none⟩) n c1] : List Value), y.oneCell' = true := fun y hy => by obtain rfl := List.mem_singleton.1 hy; rfl
    go_wp2_with (first
      | (go_at_call 71
         refine hcall.out.mono ?_
         rintro e w5 ⟨v', rfl, a1, a2, a3, a4, a5⟩
         have hlk5 : Hid (LkW w5 W.heap.size (some ⟨G, 0, none⟩) n c1 (V1.set p v') (L.set p (f d))) := hlk3.out.did hv'.out hd1'.out a1 a2 a3 a4 a5
         have hno : Hid (∀ k, w1.heap.size ≤ k ∨ k = W1.heap.size → ¬ (k = G ∨ k ∈ hbs v)) := by
           refine Lib.hid ?_
           intro k hk hm
           have h1 := hG.out
           have h2 : lo_ok W.heap.size G := (hlk3.out.row.far _ rfl).1
           have h3 := hs2.out
           have h4 := hs1.out
           rcases hm with hm | hm
           · unfold lo_ok at h2; omega
           · have h5 := hfarB.out k (bl_mem hv'.out hm)
             have h6 := ((hlk3.out.on p v d hv'.out hd1'.out).lt k hm).1
             omega
         have hrB5 : Hid (RowV 24 w5 w1.heap.size [.slice (some ⟨G, 0, none⟩) n c1]) := hrB3.out.block (a5.block _ hrB3.out.lt (hno.out _ (.inl (Nat.le_refl _))))
         have r5 : Hid (RowV 24 w5 W1.heap.size [.slice none 0 0]) := r3.out.block (a5.block _ r3.out.lt (hno.out _ (.inr rfl)))
         have hbw5 : Hid (Below w.heap.size w w5) := hbw2.out.trans (a5.below hbw2.out.size (fun k hk => by
           have h2 : lo_ok W.heap.size G := (hlk3.out.row.far _ rfl).1
           have h3 := hs2.out
           rcases hk with hk | hk
           · unfold lo_ok at h2; omega
           · have h6 := ((hlk3.out.on p v d hv'.out hd1'.out).lt k hk).1; omega))
         clear a1 a2 a3 a4 a5 hcall k0)
      | (with_reducible refine wpList_load_at rfl 24 (.tmp 7) rfl Tryz.underlying24 rfl t2 rfl hrB5.out.boxed.all ?_)
      | ((with_reducible refine wpList_store_at rfl 24 (.tmp 6) (.tmp 34) rfl (o := 0) (vs := [.slice (some ⟨G, 0, none⟩) n c1]) rfl rfl r5.out t2 (Nat.le_refl _) hone ?_)
         intro w9 h9 hg9
         have q9 : Hid (RowV 24 w9 W1.heap.size [.slice (some ⟨G, 0, none⟩) n c1]) := h9
         have hg9' := Lib.hid hg9
         clear h9 hg9))
    have m0 := q9.out.cell 0
    simp only [List.getElem?_cons_zero] at m0
    have hfin : Below w.heap.size w w9 := low_step hbw5.out hg9'.out (by have := hs1.out; omega)
    refine bodyPost_ret (v := .agg #[.slice (some ⟨G, 0, none⟩) n c1]) (by simp [results, Tryz.results68, go_sem, m0]) rfl ⟨_, n, c1, V1.set p v', rfl, ?_, hfin⟩
    rw [hch.out, if_pos (by trivial), hd3'.out]
    exact (hlk5.out.gr hg9'.out (by have := hs1.out; have := hs2.out; omega)).mono (by have := hs2.out; omega)
  | false =>
    have k0 := hrB3.out.cell 0
    simp only [List.getElem?_cons_zero] at k0
    obtain ⟨W3, hW3⟩ : ∃ W3, w2.alloc (.cells #[.int .i64 rt, .bool rk, .int .u16 ri, .slice none 0 0, .slice none 0 0] 43) = W3 := ⟨_, rfl⟩
    have hb5 := Lib.hid (one_box (xs := [.int .i64 rt, .bool rk, .int .u16 ri, .slice none 0 0, .slice none 0 0]) hW3)
    have hrv : RowV 43 W3 w2.heap.size (Cel.cells (qNew ⟨rt, rk, ri⟩)) := RowV.made' hW3
    have hz3 : Hid (w1.heap.size < w2.heap.size ∧ W.heap.size ≤ w1.heap.size ∧ w2.heap.size < W3.heap.size) := ⟨by have h1 := hz2.out; have h2 := hsB.out; omega, hz1.out, by have := hb5.out.2.2; omega⟩
    have hlk4 := Lib.hid (hlk3.out.below hb5.out.1)
    have hrB4 := Lib.hid (hrB3.out.below hb5.out.1)
    have r4 := Lib.hid (r3.out.below hb5.out.1)
    have hbw3 := Lib.hid (below_step hb5.out.1 hbw2.out)
    have hin := Lib.hid (insert_finQ W.heap.size q1 n c1 p w2.heap.size V1 (qNew ⟨rt, rk, ri⟩) W3 hpn'.out (by have := hn6'.out; omega) (by have := hz3.out; omega) hlk4.out.row hrv (fun a ha => by have h1 := hfarQ.out a ha; have := hz3.out; omega))
    have hQlo : Hid (∀ a, q1 = some a → W.heap.size ≤ a.block) := fun a ha => (hlk3.out.row.far a ha).1
    have hok : Hid ((⟨rt, rk, ri⟩ : ResD).ok) := ⟨g0, g1⟩
    have p1 : (p : Int) < n + 1 := by have := hpn'.out; omega
    clear hrv hT'
    go_wp2_with (first
      | (with_reducible refine wpList_load_at rfl 30 (.tmp 4) rfl Tryz.underlying30 rfl s3 rfl y3.out.all ?_))
    refine hin.out.mono ?_
    rintro e w4 ⟨q4, c4, rfl, a1, a2, a3⟩
    obtain ⟨ad, rfl⟩ : ∃ ad, q4 = some ad := by
      cases q4 with
      | none => exact absurd (OwnS.nil_cap a1).1 (by omega)
      | some ad => exact ⟨ad, rfl⟩
    obtain ⟨G, cur, rfl, _⟩ := openedQ a1
    have hlk5 : Hid (LkW w4 W.heap.size (some ⟨G, 0, none⟩) (n + 1) c4 (V1.take p ++ qNew ⟨rt, rk, ri⟩ :: V1.drop p) (L.take p ++ ⟨⟨rt, rk, ri⟩, [], []⟩ :: L.drop p)) := hlk4.out.ins ⟨rt, rk, ri⟩ hok.out hpn'.out a1 a2 a3
    have hGn : Hid (G ≠ w1.heap.size) := by
      show G ≠ _
      rcases a3 _ rfl with ⟨a0, h1, h2⟩ | h1
      · have h3 := hfarQ.out a0 h1; have h4 : G = a0.block := h2; omega
      · have h3 : W3.heap.size ≤ G := h1; have := hz3.out; omega
    have hbV : Hid (bl (V1.take p ++ qNew ⟨rt, rk, ri⟩ :: V1.drop p) = bl V1) := by
      show _ = _
      have h7 : bl V1 = bl (V1.take p) ++ bl (V1.drop p) := by
        have h8 : bl (V1.take p ++ V1.drop p) = bl (V1.take p) ++ bl (V1.drop p) := by simp only [bl, List.flatMap_append]
        rw [List.take_append_drop] at h8
        exact h8
      have h9 : bl (V1.take p ++ qNew ⟨rt, rk, ri⟩ :: V1.drop p) = bl (V1.take p) ++ (hbs (qNew ⟨rt, rk, ri⟩) ++ bl (V1.drop p)) := by simp only [bl, List.flatMap_append, List.flatMap_cons]
      rw [h7, h9]; rfl
    have hne4 : ∀ k, w1.heap.size ≤ k ∨ k = W1.heap.size → k < W3.heap.size → ¬ some k = q1.map (·.block) := fun k hk hk2 e => by
      cases q1 with
      | none => cases e
      | some a =>
        have e2 : k = a.block := by simpa using e
        have h1 := hfarQ.out a rfl
        have h2 := hQlo.out a rfl
        have h3 := hs2.out
        have h4 := hs1.out
        omega
    have hrB5 : Hid (RowV 24 w4 w1.heap.size [.slice q1 n c1]) := hrB4.out.block (a2.block _ hrB4.out.lt (hne4 _ (.inl (Nat.le_refl _)) hrB4.out.lt))
    have r5 : Hid (RowV 24 w4 W1.heap.size [.slice none 0 0]) := r4.out.block (a2.block _ r4.out.lt (hne4 _ (.inr rfl) r4.out.lt))
    have hbw4 : Hid (Below w.heap.size w w4) := hbw3.out.trans (below_grown2 a2 hbw3.out.size (fun a ha => by have h2 := hQlo.out a ha; have h3 := hs2.out; omega))
    obtain ⟨w5, hw5⟩ : ∃ w5, w4.setCell ⟨w1.heap.size, 0, none⟩ (.slice (some ⟨G, 0, none⟩) (n + 1) c4) = w5 := ⟨_, rfl⟩
    have hg5 : Hid (w4.grownBy w5 (some w1.heap.size)) := by rw [← hw5]; exact setCell_grown w4 _ _ _
    have hrB6 : Hid (RowV 24 w5 w1.heap.size [.slice (some ⟨G, 0, none⟩) (n + 1) c4]) := by rw [← hw5]; exact hrB5.out.set 0 _
    have r6 : Hid (RowV 24 w5 W1.heap.size [.slice none 0 0]) := r5.out.kept hg5.out (by have h1 := hz3.out; have h2 := hs2.out; have h3 := hs1.out; omega)
    have hlk6 : Hid (LkW w5 W.heap.size (some ⟨G, 0, none⟩) (n + 1) c4 (V1.take p ++ qNew ⟨rt, rk, ri⟩ :: V1.drop p) (L.take p ++ ⟨⟨rt, rk, ri⟩, [], []⟩ :: L.drop p)) := hlk5.out.gr2 hg5.out (fun a ha => by cases ha; exact hGn.out) (by rw [hbV.out]; intro hm; have := hfarB.out _ hm; omega)
    have hbw5 : Hid (Below w.heap.size w w5) := low_step hbw4.out hg5.out (by have := hz3.out; have := hs2.out; omega)
    have hV6 : Hid ((V1.take p ++ qNew ⟨rt, rk, ri⟩ :: V1.drop p)[p]? = some (qNew ⟨rt, rk, ri⟩)) := by
      show _ = _
      have h1 := hlk3.out.vlen
      have h2 := hpn'.out
      rw [List.getElem?_append_right (by rw [List.length_take]; omega), List.length_take, Nat.min_eq_left (by omega), Nat.sub_self]; rfl
    have hL6 : Hid ((L.take p ++ (⟨⟨rt, rk, ri⟩, [], []⟩ : QueD) :: L.drop p)[p]? = some ⟨⟨rt, rk, ri⟩, [], []⟩) := by
      show _ = _
      rw [List.getElem?_append_right (by rw [List.length_take]; omega), List.length_take, Nat.min_eq_left (by omega), Nat.sub_self]; rfl
    have hcall := Lib.hid (hdo'.out w5 W.heap.size G (n + 1) c4 p _ (qNew ⟨rt, rk, ri⟩) ⟨⟨rt, rk, ri⟩, [], []⟩ hbw5.out hbW.out.size (by have h1 := hg5.out.size; have h2 := a2.size; have h3 := hz3.out; omega) hlk6.out.row hV6.out (hlk6.out.on p _ _ hV6.out hL6.out) (fun hm => by simp [hbs, qNew] at hm) (by simp [hbs, qNew]) (.inr rfl))
    have k4 := hrB5.out.cell 0
    have f4 := hrB5.out.free 0
    have k5 := hrB6.out.cell 0
    simp only [List.getElem?_cons_zero] at k4 k5
    have t2 := sizeLks (.slice (some ⟨G, 0, none⟩) (n + 1) c4)
    have hone : ∀ y ∈ ([.slice (some ⟨G, 0, none⟩) (n + 1) c4] : List Value), y.oneCell' = true := fun y hy => by obtain rfl := List.mem_singleton.1 hy; rfl
    have hG6 : Hid (W.heap.size ≤ G) := (hlk6.out.row.far _ rfl).1
    have hz5 : Hid (w1.heap.size < w5.heap.size) := hrB6.out.lt
    clear a1 a2 a3 hne4 k0 hin hW3
    go_wp2_with (first
      | (go_at_call 71
         refine hcall.out.mono ?_
         rintro e w6 ⟨v', rfl, b1, b2, b3, b4, b5⟩
         have hlk7 : Hid (LkW w6 W.heap.size (some ⟨G, 0, none⟩) (n + 1) c4 _ _) := hlk6.out.did hV6.out hL6.out b1 b2 b3 b4 b5
         have hno : Hid (∀ k, k = w1.heap.size ∨ k = W1.heap.size → ¬ (k = G ∨ k ∈ hbs (qNew ⟨rt, rk, ri⟩))) := by
           refine Lib.hid ?_
           intro k hk hm
           have h1 := hGn.out
           have h2 := hG6.out
           have h3 := hs2.out
           have h4 := hs1.out
           rcases hm with hm | hm
           · omega
           · simp [hbs, qNew] at hm
         have hrB7 : Hid (RowV 24 w6 w1.heap.size [.slice (some ⟨G, 0, none⟩) (n + 1) c4]) := hrB6.out.block (b5.block _ hrB6.out.lt (hno.out _ (.inl rfl)))
         have r7 : Hid (RowV 24 w6 W1.heap.size [.slice none 0 0]) := r6.out.block (b5.block _ r6.out.lt (hno.out _ (.inr rfl)))
         have hbw6 : Hid (Below w.heap.size w w6) := hbw5.out.trans (b5.below hbw5.out.size (fun k hk => by
           have h2 := hG6.out
           have h3 := hs2.out
           rcases hk with hk | hk
           · omega
           · simp [hbs, qNew] at hk))
         clear b1 b2 b3 b4 b5 hcall k4 f4 k5 hw5)
      | (with_reducible refine wpList_load_at rfl 24 (.tmp 7) rfl Tryz.underlying24 rfl t2 rfl hrB7.out.boxed.all ?_)
      | ((with_reducible refine wpList_store_at rfl 24 (.tmp 6) (.tmp 34) rfl (o := 0) (vs := [.slice (some ⟨G, 0, none⟩) (n + 1) c4]) rfl rfl r7.out t2 (Nat.le_refl _) hone ?_)
         intro w9 h9 hg9
         have q9 : Hid (RowV 24 w9 W1.heap.size [.slice (some ⟨G, 0, none⟩) (n + 1) c4]) := h9
         have hg9' := Lib.hid hg9
         clear h9 hg9))
    have m0 := q9.out.cell 0
    simp only [List.getElem?_cons_zero] at m0
    have hfin : Below w.heap.size w w9 := low_step hbw6.out hg9'.out (by have := hs1.out; omega)
    have h8 := (hlk7.out.gr hg9'.out (by have := hs1.out; have := hs2.out; omega)).mono (lo' := w.heap.size) (by have := hs2.out; omega)
    have e8 : (L.take p ++ (⟨⟨rt, rk, ri⟩, [], []⟩ : QueD) :: L.drop p).set p (f ⟨⟨rt, rk, ri⟩, [], []⟩) = chgL L ⟨rt, rk, ri⟩ f := by
      rw [hch.out, if_neg (by decide), List.set_append_right _ _ (by rw [List.length_take]; omega), List.length_take, Nat.min_eq_left (by omega), Nat.sub_self]; rfl
    rw [e8] at h8
    exact bodyPost_ret (v := .agg #[.slice (some ⟨G, 0, none⟩) (n + 1) c4]) (by simp [results, Tryz.results68, go_sem, m0]) rfl ⟨_, n + 1, c4, _, rfl, h8, hfin⟩
end Go.Proofs.YtbgpppbcffpdbaaGreatDoor
