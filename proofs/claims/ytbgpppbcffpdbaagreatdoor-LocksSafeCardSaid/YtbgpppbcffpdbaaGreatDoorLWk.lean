/- wakes of the laws on locks. -/
import Derived.Test.YtbgpppbcffpdbaaGreatDoorLMu
import Derived.Test.YtbgpppbcffpdbaaGreatDoorLBk
namespace Go.Proofs.YtbgpppbcffpdbaaGreatDoor
open Go.RowKit

def kK : ResD := ⟨0, true, 7⟩
def wL1 : List QueD := [⟨kK, [⟨1, 3⟩], []⟩]
def wL2 : List QueD := [⟨kK, [⟨1, 3⟩, ⟨2, 3⟩], []⟩]
def wL3 : List QueD := [⟨kK, [⟨1, 3⟩, ⟨2, 3⟩], [⟨1, 5, 3⟩]⟩]
def wL4 : List QueD := [⟨kK, [⟨1, 5⟩], []⟩]
theorem kK_ok : kK.ok := ⟨by decide, by decide⟩
theorem chk0 : ChkOk [] := ⟨by decide, by simp [txL], fun d hd => (by cases hd), fun j p a h => (by simp at h)⟩
theorem askE_of {L : List QueD} {x m : Int} (h : ChkOk L) (h1 : txnB x = true) (h2 : modB true m = true) (h3 : x ∉ txL L) : AskE L x kK m 0 := .inr ⟨.inr (.inr ⟨h, h1, rfl⟩), .inr (.inr ⟨rfl, h2, .inr ⟨nowait_iff.2 h3, rfl⟩⟩)⟩
theorem wE1 : AskE [] 1 kK 3 0 := askE_of chk0 (by decide) (by decide) (by simp [txL])
theorem wF1 : askF [] 1 kK 3 = (wL1, 2, 0) := by decide +kernel
theorem wA1 : AskOk [] 1 kK 3 wL1 2 := ask_ok wE1 (fun d hd => (by cases hd)) kK_ok wF1
theorem wE2 : AskE wL1 2 kK 3 0 := askE_of wA1.chk (by decide) (by decide) (by decide)
theorem wF2 : askF wL1 2 kK 3 = (wL2, 2, 0) := by decide +kernel
theorem wA2 : AskOk wL1 2 kK 3 wL2 2 := ask_ok wE2 wA1.ok kK_ok wF2
theorem wE3 : AskE wL2 1 kK 6 0 := askE_of wA2.chk (by decide) (by decide) (by decide)
theorem wF3 : askF wL2 1 kK 6 = (wL3, 3, 0) := by decide +kernel
theorem wA3 : AskOk wL2 1 kK 6 wL3 3 := ask_ok wE3 wA2.ok kK_ok wF3
theorem wE4 : AskE [] 1 kK 5 0 := askE_of chk0 (by decide) (by decide) (by simp [txL])
theorem wF4 : askF [] 1 kK 5 = (wL4, 2, 0) := by decide +kernel
theorem wA4 : AskOk [] 1 kK 5 wL4 2 := ask_ok wE4 (fun d hd => (by cases hd)) kK_ok wF4
theorem wB3 : BlockR wL3 1 [2] := .inr (.inr ⟨wA3.chk, ⟨kK, [⟨1, 3⟩, ⟨2, 3⟩], [⟨1, 5, 3⟩]⟩, by decide +kernel, by
  unfold blkOf
  have h : preB ⟨kK, [⟨1, 3⟩, ⟨2, 3⟩], [⟨1, 5, 3⟩]⟩ 1 = [2] := by decide +kernel
  rw [h, List.mergeSort_singleton]
  decide⟩)
theorem wR3 : RelR wL3 2 wL4 [1] 0 := .inr ⟨.inr (.inr ⟨wA3.chk, by decide, rfl⟩), rfl, by decide +kernel, by decide +kernel⟩
theorem wM4 : ModeE wL4 1 kK 5 := .inr ⟨wA4.chk, by decide +kernel⟩
theorem sm_of {L : List QueD} (h : ∀ d ∈ L, d.hs.length ≤ 9 ∧ d.ws.length ≤ 9) : Sm L := fun d hd => ⟨Nat.le_trans (h d hd).1 (by decide), Nat.le_trans (h d hd).2 (by decide)⟩
theorem own_one {w : World} {B n c : Nat} {q : Option Addr} {x : Int} (h : OwnS 3 w B (.slice q n c) [x]) : n = 1 ∧ ∃ g, q = some ⟨g, 0, none⟩ ∧ w.cell? ⟨g, 0, none⟩ = some (.int .i64 x) := by
  have hl := h.len
  refine ⟨hl, ?_⟩
  cases q with
  | none =>
    have h1 := h.nil_cap.1
    rw [hl] at h1
    cases h1
  | some a =>
    have hr := h.reads
    obtain ⟨g, cur, rfl, _⟩ := h.opened
    obtain ⟨a', r, e, h1, h2⟩ := hr.at (i := 0) (by rw [hl]; exact Nat.one_pos)
    cases e
    simp at h1
    subst h1
    exact ⟨g, rfl, h2 0 _ rfl⟩

set_option maxRecDepth 100000 in
set_option maxHeartbeats 4000000 in
theorem wakes_any (w : World) (hL : Lay w) : Calls Tryz.prog 9 #[] w (fun e w' => e = .returned (.bool true) ∧ Below w.heap.size w w') := by
  obtain ⟨W, hW⟩ : ∃ W, w.alloc (.cells #[.int .i64 0, .bool true, .int .u16 7] 30) = W := ⟨_, rfl⟩
  have hb0 := Lib.hid (one_box (xs := [.int .i64 0, .bool true, .int .u16 7]) hW)
  have hLa := Lib.hid hL
  have s3 := sizeRes (.int .i64 0) (.bool true) (.int .u16 7)
  have hS : Hid (∀ u, Below W.heap.size W u → Lay u) := fun u hu => ⟨hLa.out.goes (below_step hu hb0.out.1), hLa.out.cov (below_step hu hb0.out.1)⟩
  have hz0 : Hid (w.heap.size < W.heap.size) := by show _ < _; have := hb0.out.2.2; omega
  have ha1 := Lib.hid (ask_any none 0 0 [] [] 1 0 true 7 3 wL1 2 0 (.inr ⟨wE1, wF1⟩) W (hS.out _ (Below.refl _ _)) ⟨SlOn.none_ _, rfl, fun i v d h => (by simp at h)⟩ (sm_of (fun d hd => (by cases hd))) (by decide) (by decide) (by decide))
  clear hL
  go_enter Tryz.func9, Tryz.ntmps9
  go_wp2_with (first
    | (with_reducible refine wpList_load_at rfl 30 (.tmp 1) rfl Tryz.underlying30 rfl s3 rfl hb0.out.2.1.all ?_))
  refine ha1.out.mono ?_
  rintro e u1 ⟨q1, n1, c1, V1, rfl, k1, b1⟩
  have hk1 := Lib.hid k1
  have hb1 := Lib.hid b1
  obtain ⟨u2, hu2⟩ : ∃ u, u1.alloc (.cells #[.slice q1 n1 c1] 24) = u := ⟨_, rfl⟩
  have hx2 := Lib.hid (one_box (xs := [.slice q1 n1 c1]) hu2)
  have r2 : Hid (RowV 24 u2 u1.heap.size [.slice q1 n1 c1]) := RowV.made' (cs := [.slice q1 n1 c1]) hu2
  have hb2 := Lib.hid (below_step hx2.out.1 b1)
  have hk2 := Lib.hid (hk1.out.below hx2.out.1)
  have x2 := Lib.hid (hb0.out.2.1.below hb2.out (Nat.le_refl _))
  have t2 := sizeLks (.slice q1 n1 c1)
  have hs2 : Hid (u1.heap.size < u2.heap.size) := by show _ < _; have := hx2.out.2.2; omega
  have hlow1 : Hid (W.heap.size ≤ u1.heap.size) := b1.size
  have ha2 := Lib.hid (ask_any q1 n1 c1 V1 wL1 2 0 true 7 3 wL2 2 0 (.inr ⟨wE2, wF2⟩) u2 (hS.out _ hb2.out) hk2.out.lk (sm_of (by decide)) (by have := hk2.out.len; have h : wL1.length = 1 := rfl; omega) (by decide) (by decide))
  clear k1 b1 hW ha1
  go_wp2_with (first
    | (with_reducible refine wpList_load_at rfl 24 (.tmp 2) rfl Tryz.underlying24 rfl t2 rfl r2.out.boxed.all ?_)
    | (with_reducible refine wpList_load_at rfl 30 (.tmp 1) rfl Tryz.underlying30 rfl s3 rfl x2.out.all ?_))
  clear hu2
  refine ha2.out.mono ?_
  rintro e u3 ⟨q3, n3, c3, V3, rfl, k3, b3⟩
  have hk3 := Lib.hid k3
  have hb3 := Lib.hid (below_step b3 hb2.out)
  have r3 := Lib.hid (r2.out.below b3)
  have t3 := sizeLks (.slice q3 n3 c3)
  have one3 : ∀ y ∈ ([.slice q3 n3 c3] : List Value), y.oneCell' = true := fun y hy => by obtain rfl := List.mem_singleton.1 hy; rfl
  clear k3 b3 ha2
  go_wp2_with (first
    | ((with_reducible refine wpList_store_at rfl 24 (.tmp 2) (.tmp 24) rfl (o := 0) (vs := [.slice q3 n3 c3]) rfl rfl r3.out t3 (Nat.le_refl _) one3 ?_)
       intro u4 h4 hg4
       have r4 : Hid (RowV 24 u4 u1.heap.size [.slice q3 n3 c3]) := h4
       have hb4 : Hid (Below W.heap.size W u4) := low_step hb3.out hg4 hlow1.out
       have hk4 := Lib.hid (hk3.out.gr hg4 hs2.out)
       have hs4 : Hid (u1.heap.size < u4.heap.size) := r4.out.lt
       have x4 := Lib.hid (hb0.out.2.1.below hb4.out (Nat.le_refl _))
       have ha3 := Lib.hid (ask_any q3 n3 c3 V3 wL2 1 0 true 7 6 wL3 3 0 (.inr ⟨wE3, wF3⟩) u4 (hS.out _ hb4.out) hk4.out.lk (sm_of (by decide)) (by have := hk4.out.len; have h : wL2.length = 1 := rfl; omega) (by decide) (by decide))
       clear h4 hg4)
    | (with_reducible refine wpList_load_at rfl 24 (.tmp 2) rfl Tryz.underlying24 rfl t3 rfl r4.out.boxed.all ?_)
    | (with_reducible refine wpList_load_at rfl 30 (.tmp 1) rfl Tryz.underlying30 rfl s3 rfl x4.out.all ?_))
  refine ha3.out.mono ?_
  rintro e u5 ⟨q5, n5, c5, V5, rfl, k5, b5⟩
  have hk5 := Lib.hid k5
  have hb5 := Lib.hid (below_step b5 hb4.out)
  have r5 := Lib.hid (r4.out.below b5)
  have t5 := sizeLks (.slice q5 n5 c5)
  have one5 : ∀ y ∈ ([.slice q5 n5 c5] : List Value), y.oneCell' = true := fun y hy => by obtain rfl := List.mem_singleton.1 hy; rfl
  clear k5 b5 ha3
  go_wp2_with (first
    | ((with_reducible refine wpList_store_at rfl 24 (.tmp 2) (.tmp 31) rfl (o := 0) (vs := [.slice q5 n5 c5]) rfl rfl r5.out t5 (Nat.le_refl _) one5 ?_)
       intro u6 h6 hg6
       have r6 : Hid (RowV 24 u6 u1.heap.size [.slice q5 n5 c5]) := h6
       have hb6 : Hid (Below W.heap.size W u6) := low_step hb5.out hg6 hlow1.out
       have hk6 := Lib.hid (hk5.out.gr hg6 hs4.out)
       have hs6 : Hid (u1.heap.size < u6.heap.size) := r6.out.lt
       have hn5 : Hid (n5 = 1) := by show _ = _; have h := hk6.out.len; exact h.symm
       have ha4 := Lib.hid (blockers_any q5 n5 c5 V5 wL3 1 [2] wB3 u6 (hS.out _ hb6.out) hk6.out.lk (sm_of (by decide)) (by have := hn5.out; omega))
       clear h6 hg6)
    | (with_reducible refine wpList_load_at rfl 24 (.tmp 2) rfl Tryz.underlying24 rfl t5 rfl r6.out.boxed.all ?_))
  refine ha4.out.mono ?_
  rintro e u7 ⟨gq, gn, gc, rfl, g7, b7⟩
  obtain ⟨rfl, g, rfl, hcg⟩ := own_one g7
  have hg7 := Lib.hid g7
  have hb7 := Lib.hid (below_step b7 hb6.out)
  have r7 := Lib.hid (r6.out.below b7)
  have hk7 := Lib.hid (hk6.out.below b7)
  have hs7 : Hid (u1.heap.size < u7.heap.size ∧ u1.heap.size < g ∧ g < u7.heap.size) := ⟨r7.out.lt, by have h1 : u6.heap.size ≤ g := (g7.far _ rfl).1; have h2 := hs6.out; omega, (g7.far _ rfl).2⟩
  have ha5 := Lib.hid (release_any q5 n5 c5 V5 wL3 2 wL4 [1] 0 wR3 u7 (hS.out _ hb7.out) hk7.out.lk (sm_of (by decide)) (by have := hn5.out; omega))
  have hcg' := Lib.hid hcg
  clear g7 b7 ha4 hcg
  go_wp2_with (first
    | (with_reducible refine wpList_load_at rfl 24 (.tmp 2) rfl Tryz.underlying24 rfl t5 rfl r7.out.boxed.all ?_))
  refine ha5.out.mono ?_
  rintro e u8 ⟨q8, n8, c8, V8, fq, fn, fc, rfl, k8, f8, b8⟩
  have hk8 := Lib.hid k8
  have hf8 := Lib.hid f8
  have hb8 := Lib.hid (below_step b8 hb7.out)
  have r8 := Lib.hid (r7.out.below b8)
  have c8' : Hid (u8.cell? ⟨g, 0, none⟩ = some (.int .i64 2)) := cell_kept b8 (Nat.le_refl _) hcg'.out
  have t8 := sizeLks (.slice q8 n8 c8)
  have one8 : ∀ y ∈ ([.slice q8 n8 c8] : List Value), y.oneCell' = true := fun y hy => by obtain rfl := List.mem_singleton.1 hy; rfl
  clear k8 f8 b8 ha5
  go_wp2_with (first
    | ((with_reducible refine wpList_store_at rfl 24 (.tmp 2) (.tmp 39) rfl (o := 0) (vs := [.slice q8 n8 c8]) rfl rfl r8.out t8 (Nat.le_refl _) one8 ?_)
       intro u9 h9 hg9
       have r9 : Hid (RowV 24 u9 u1.heap.size [.slice q8 n8 c8]) := h9
       have hb9 : Hid (Below W.heap.size W u9) := low_step hb8.out hg9 hlow1.out
       have hk9 := Lib.hid (hk8.out.gr hg9 hs7.out.1)
       have hf9 := Lib.hid (hf8.out.gr hg9 hs7.out.1)
       obtain ⟨rfl, g', rfl, hcf⟩ := own_one hf9.out
       have hn8 : Hid (n8 = 1) := by show _ = _; have h := hk9.out.len; exact h.symm
       have hcg9 : u9.cell? ⟨g, 0, none⟩ = some (.int .i64 2) := cell_ne' hg9 (fun e => by
         have e2 : u1.heap.size = g := by simpa using e
         have := hs7.out.2.1
         omega) c8'.out
       have hbx := hb0.out.2.1.below hb9.out (Nat.le_refl _)
       have y0 := hbx.cell 0 rfl
       have y1 := hbx.cell 1 rfl
       have y2 := hbx.cell 2 rfl
       have z0 := r9.out.cell 0
       simp only [List.getElem?_cons_zero] at z0
       have ha6 := Lib.hid (mode_any q8 n8 c8 V8 wL4 1 0 true 7 5 wM4 u9 (hS.out _ hb9.out) hk9.out.lk (sm_of (by decide)) (by have := hn8.out; omega) (fun h => ⟨h.sort, h.sorts⟩) (by decide) (by decide))
       clear h9 hg9 hbx)
    | (go_at_call 26; refine ha6.out.mono ?_; rintro e u10 ⟨rfl, b10⟩; have hb10 := Lib.hid (below_step b10 hb9.out); clear b10))
  go_ret
  exact ⟨rfl, below_step hb10.out hb0.out.1⟩
end Go.Proofs.YtbgpppbcffpdbaaGreatDoor
