/- LocksMost: for every number and both answers the law returns true. No other condition (merged of several texts). -/
import Derived.Test.YtbgpppbcffpdbaaGreatDoorLVh
import Derived.Test.YtbgpppbcffpdbaaGreatDoorLMp
import Derived.Test.YtbgpppbcffpdbaaGreatDoorLFe
import Derived.Test.YtbgpppbcffpdbaaGreatDoorLTo
import Derived.Test.YtbgpppbcffpdbaaGreatDoorTie
import Derived.Test.YtbgpppbcffpdbaaGreatDoorCards
import Derived.Deep.DeepCutAuto

/-! (Op).wants of the laws on locks: where it asks, and where the locks are not right. -/
namespace Go.Proofs.YtbgpppbcffpdbaaGreatDoor
open Go.RowKit

def WantP (L : List QueD) (wh er : Int) (w : World) (e : Ending) (w' : World) : Prop := ∃ q' n' c' V', e = .returned (.agg #[.slice q' n' c', .int .i64 wh, .slice none 0 0, .int .i64 er]) ∧ LkOn w' q' n' c' V' L ∧ Below w.heap.size w w'

set_option maxRecDepth 100000 in
set_option maxHeartbeats 4000000 in
theorem wants_ask (q : Option Addr) (n c : Nat) (V : List QV) (L : List QueD) (kd x m t : Int) (k : Bool) (id : Int) (L' : List QueD) (wh er : Int) (hkd : kindR kd ≠ 5) (hkd6 : kindR kd ≠ 6) (w : World) (h : LkOn w q n c V L) (hsm : Sm L) (hck : ChkOk L) (hcl0 : ∀ u, Below w.heap.size w u → Calls Tryz.prog 35 #[.agg #[.slice q n c], .int .i64 x, .agg #[.int .i64 t, .bool k, .int .u16 id], .int .i64 m] u (RAskP w L' wh er u)) :
    Calls Tryz.prog 13 #[.agg #[.int .i64 kd, .int .i64 x, .int .i64 m, .int .i64 t, .bool k, .int .u16 id], .agg #[.slice q n c]] w (WantP L' wh er w) := by
  obtain ⟨W0, hW0⟩ : ∃ W, w.alloc (.cells #[.int .i64 kd, .int .i64 x, .int .i64 m, .int .i64 t, .bool k, .int .u16 id] 32) = W := ⟨_, rfl⟩
  have hb0 := Lib.hid (one_box (xs := [.int .i64 kd, .int .i64 x, .int .i64 m, .int .i64 t, .bool k, .int .u16 id]) hW0)
  obtain ⟨W1, hW1⟩ : ∃ W, W0.alloc (.cells #[.slice q n c] 24) = W := ⟨_, rfl⟩
  have hb1 := Lib.hid (one_box (xs := [.slice q n c]) hW1)
  obtain ⟨W, hW⟩ : ∃ W, W1.alloc (.cells #[.slice none 0 0, .int .i64 0, .slice none 0 0, .int .i64 0] 36) = W := ⟨_, rfl⟩
  have hb2 := Lib.hid (one_box (xs := [.slice none 0 0, .int .i64 0, .slice none 0 0, .int .i64 0]) hW)
  have hr2 : Hid (RowV 36 W W1.heap.size [.slice none 0 0, .int .i64 0, .slice none 0 0, .int .i64 0]) := RowV.made' (cs := [.slice none 0 0, .int .i64 0, .slice none 0 0, .int .i64 0]) hW
  have hs0 : Hid (W0.heap.size = w.heap.size + 1) := hb0.out.2.2
  have hs1 : Hid (W1.heap.size = w.heap.size + 2) := by show _ = _; have h1 := hb1.out.2.2; have h2 := hs0.out; omega
  have hs2 : Hid (W.heap.size = w.heap.size + 3) := by show _ = _; have h1 := hb2.out.2.2; have h2 := hs1.out; omega
  have hb12 := Lib.hid (below_step hb2.out.1 hb1.out.1)
  have hbW := Lib.hid (below_step hb12.out hb0.out.1)
  have x0 := Lib.hid (hb0.out.2.1.below hb12.out (Nat.le_refl _))
  have x1 := Lib.hid (hb1.out.2.1.below hb2.out.1 (Nat.le_refl _))
  have hh := Lib.hid (h.below hbW.out (Nat.le_refl _))
  have s1 := sizeLks (.slice q n c)
  have s3 := sizeRes (.int .i64 t) (.bool k) (.int .u16 id)
  have hrg := Lib.hid (rright_any q n c V L true ⟨fun _ => hck, fun _ => rfl⟩ W hh.out hsm)
  have hcl1 := Lib.hid hcl0
  obtain ⟨kr, hkr⟩ : ∃ kr, (IntKind.u64.wrap kd).tmod 7 = kr := ⟨_, rfl⟩
  have kr5 : (kr == 5) = false := by have : kr ≠ 5 := by rw [← hkr]; exact hkd
                                     simpa using this
  have kr6 : (kr == 6) = false := by have : kr ≠ 6 := by rw [← hkr]; exact hkd6
                                     simpa using this
  clear h hsm hck hcl0
  go_enter Tryz.func13, Tryz.ntmps13
  go_wp2_with (first
    | (with_reducible refine wpList_load_at rfl 24 (.tmp 3) rfl Tryz.underlying24 rfl s1 rfl x1.out.all ?_)
    | (go_at_call 16
       refine hrg.out.mono ?_
       rintro e2 w2 ⟨rfl, hb⟩
       have hb2' := Lib.hid hb
       have hbW2 := Lib.hid (below_step hb hbW.out)
       have x02 := Lib.hid (x0.out.below hb (Nat.le_refl _))
       have x12 := Lib.hid (x1.out.below hb (Nat.le_refl _))
       have hcl := Lib.hid (hcl1.out w2 hbW2.out)
       have c0 := x02.out.cell 0 rfl
       have c1 := x02.out.cell 1 rfl
       have c2 := x02.out.cell 2 rfl
       have hres : Hid (∀ j v, ([.int .i64 t, .bool k, .int .u16 id] : List Value)[j]? = some v → w2.cell? ((⟨w.heap.size, 3, none⟩ : Addr).add j) = some v) := fun j v hj => x02.out.part (o := 3) (ys := [.int .i64 t, .bool k, .int .u16 id]) (fun j v hj => by match j, hj with | 0, h => exact h | 1, h => exact h | 2, h => exact h | j + 3, h => simp at h) j v hj
       clear hb hrg hcl1)
    | (with_reducible refine wpList_load_at rfl 24 (.tmp 3) rfl Tryz.underlying24 rfl s1 rfl x12.out.all ?_)
    | (with_reducible refine wpList_load_at rfl 30 (.tmp 18) rfl Tryz.underlying30 rfl s3 rfl hres.out ?_))
  refine hcl.out.mono ?_
  rintro e5 w5 ⟨q', n', c', V', rfl, k1, k3⟩
  have hk1 := Lib.hid k1
  have hk3 := Lib.hid (below_step k3 hb2'.out)
  have hk35 := Lib.hid k3
  have r5 := Lib.hid (hr2.out.below hk3.out)
  have t6 := sizeLks (.slice q' n' c')
  have hone6 : ∀ y ∈ ([.slice q' n' c'] : List Value), y.oneCell' = true := fun y hy => by obtain rfl := List.mem_singleton.1 hy; rfl
  have hfit : 0 + [Value.slice q' n' c'].length ≤ [Value.slice none 0 0, Value.int .i64 0, Value.slice none 0 0, Value.int .i64 0].length := by show 1 ≤ 4; omega
  have t4 := sizeTold (.slice q' n' c') (.int .i64 wh) (.slice none 0 0) (.int .i64 er)
  have hone4 : ∀ y ∈ ([.slice q' n' c', (.int .i64 wh), (.slice none 0 0), .int .i64 er] : List Value), y.oneCell' = true := fun y hy => by simp only [List.mem_cons, List.not_mem_nil, or_false] at hy; rcases hy with rfl | rfl | rfl | rfl <;> rfl
  clear k1 k3 hcl hW hW0 hW1 c0 c1 c2
  go_wp2_with (first
    | ((with_reducible refine wpList_store_at rfl 24 (.tmp 26) (.tmp 23) rfl (o := 0) (vs := [.slice q' n' c']) rfl rfl r5.out t6 hfit hone6 ?_)
       intro w8 h8 hg8
       have q8 : Hid (RowV 36 w8 W1.heap.size [.slice q' n' c', .int .i64 0, .slice none 0 0, .int .i64 0]) := h8
       have hg8' := Lib.hid hg8
       have d1 := q8.out.cell 1
       have d3 := q8.out.cell 3
       have f1 := q8.out.free 1
       have f3 := q8.out.free 3
       simp only [List.getElem?_cons_zero, List.getElem?_cons_succ] at d1 d3
       obtain ⟨w10, hw10⟩ : ∃ w10, (w8.setCell ⟨W1.heap.size, 1, none⟩ (.int .i64 wh)).setCell ⟨W1.heap.size, 3, none⟩ (.int .i64 er) = w10 := ⟨_, rfl⟩
       have q10 : Hid (RowV 36 w10 W1.heap.size [.slice q' n' c', (.int .i64 wh), (.slice none 0 0), .int .i64 er]) := by rw [← hw10]; exact (q8.out.set 1 _).set 3 _
       have hg10 : Hid (w8.grownBy w10 (some W1.heap.size)) := by rw [← hw10]; exact grown_trans (setCell_grown w8 W1.heap.size _ _) (setCell_grown _ W1.heap.size _ _)
       clear h8 hg8)
    | (with_reducible refine wpList_load_at rfl 36 (.tmp 4) rfl Tryz.underlying36 rfl t4 rfl q10.out.boxed.all ?_)
    | ((with_reducible refine wpList_store_at rfl 36 (.tmp 4) (.tmp 55) rfl (o := 0) (vs := [.slice q' n' c', (.int .i64 wh), (.slice none 0 0), .int .i64 er]) rfl rfl q10.out t4 (Nat.le_refl _) hone4 ?_)
       intro w9 h9 hg9
       have q9 : Hid (RowV 36 w9 W1.heap.size [.slice q' n' c', (.int .i64 wh), (.slice none 0 0), .int .i64 er]) := h9
       have hg9' := Lib.hid hg9
       clear h9 hg9 d1 d3 f1 f3 hw10))
  have m0 := q9.out.cell 0
  have m1 := q9.out.cell 1
  have m2 := q9.out.cell 2
  have m3 := q9.out.cell 3
  simp only [List.getElem?_cons_zero, List.getElem?_cons_succ] at m0 m1 m2 m3
  have hlt : W1.heap.size < W.heap.size := by have := hs1.out; have := hs2.out; omega
  have hgg := grown_trans (grown_trans hg8'.out hg10.out) hg9'.out
  have hfin : Below w.heap.size w w9 := low_step (below_step hk3.out hbW.out) hgg (by have := hs1.out; omega)
  have hle : w.heap.size ≤ W.heap.size := hbW.out.size
  have hle2 : W.heap.size ≤ w2.heap.size := hb2'.out.size
  exact bodyPost_ret (v := .agg #[.slice q' n' c', (.int .i64 wh), (.slice none 0 0), .int .i64 er]) (by simp [results, Tryz.results13, go_sem, m0, m1, m2, m3]) rfl ⟨q', n', c', V', rfl, hk1.out w9 (Fr.of_grown hgg (fun j e => by cases e; have := hs1.out; exact ⟨by omega, by omega⟩)), hfin⟩
set_option maxRecDepth 100000 in
set_option maxHeartbeats 4000000 in
theorem wants_no (q : Option Addr) (n c : Nat) (V : List QV) (L : List QueD) (kd x m t : Int) (k : Bool) (id : Int) (w : World) (h : LkOn w q n c V L) (hsm : Sm L) (hck : ¬ ChkOk L) :
    Calls Tryz.prog 13 #[.agg #[.int .i64 kd, .int .i64 x, .int .i64 m, .int .i64 t, .bool k, .int .u16 id], .agg #[.slice q n c]] w (WantP [] 0 180 w) := by
  obtain ⟨W0, hW0⟩ : ∃ W, w.alloc (.cells #[.int .i64 kd, .int .i64 x, .int .i64 m, .int .i64 t, .bool k, .int .u16 id] 32) = W := ⟨_, rfl⟩
  have hb0 := Lib.hid (one_box (xs := [.int .i64 kd, .int .i64 x, .int .i64 m, .int .i64 t, .bool k, .int .u16 id]) hW0)
  obtain ⟨W1, hW1⟩ : ∃ W, W0.alloc (.cells #[.slice q n c] 24) = W := ⟨_, rfl⟩
  have hb1 := Lib.hid (one_box (xs := [.slice q n c]) hW1)
  obtain ⟨W, hW⟩ : ∃ W, W1.alloc (.cells #[.slice none 0 0, .int .i64 0, .slice none 0 0, .int .i64 0] 36) = W := ⟨_, rfl⟩
  have hb2 := Lib.hid (one_box (xs := [.slice none 0 0, .int .i64 0, .slice none 0 0, .int .i64 0]) hW)
  have hr2 : Hid (RowV 36 W W1.heap.size [.slice none 0 0, .int .i64 0, .slice none 0 0, .int .i64 0]) := RowV.made' (cs := [.slice none 0 0, .int .i64 0, .slice none 0 0, .int .i64 0]) hW
  have hs0 : Hid (W0.heap.size = w.heap.size + 1) := hb0.out.2.2
  have hs1 : Hid (W1.heap.size = w.heap.size + 2) := by show _ = _; have h1 := hb1.out.2.2; have h2 := hs0.out; omega
  have hs2 : Hid (W.heap.size = w.heap.size + 3) := by show _ = _; have h1 := hb2.out.2.2; have h2 := hs1.out; omega
  have hb12 := Lib.hid (below_step hb2.out.1 hb1.out.1)
  have hbW := Lib.hid (below_step hb12.out hb0.out.1)
  have x0 := Lib.hid (hb0.out.2.1.below hb12.out (Nat.le_refl _))
  have x1 := Lib.hid (hb1.out.2.1.below hb2.out.1 (Nat.le_refl _))
  have hh := Lib.hid (h.below hbW.out (Nat.le_refl _))
  have s1 := sizeLks (.slice q n c)
  have s3 := sizeRes (.int .i64 t) (.bool k) (.int .u16 id)
  have hrg := Lib.hid (rright_any q n c V L false ⟨fun e => (by cases e), fun e => absurd e hck⟩ W hh.out hsm)
  clear h hsm hck
  go_enter Tryz.func13, Tryz.ntmps13
  have sT := sizeTold (.slice none 0 0) (.int .i64 0) (.slice none 0 0) (.int .i64 180)
  have honeT : ∀ y ∈ ([.slice none 0 0, (.int .i64 0), (.slice none 0 0), .int .i64 180] : List Value), y.oneCell' = true := fun y hy => by simp only [List.mem_cons, List.not_mem_nil, or_false] at hy; rcases hy with rfl | rfl | rfl | rfl <;> rfl
  go_wp2_with (first
    | (with_reducible refine wpList_load_at rfl 24 (.tmp 3) rfl Tryz.underlying24 rfl s1 rfl x1.out.all ?_)
    | (go_at_call 16
       refine hrg.out.mono ?_
       rintro e2 w2 ⟨rfl, hb⟩
       have hb2' := Lib.hid hb
       have hbW2 := Lib.hid (below_step hb hbW.out)
       have r5 := Lib.hid (hr2.out.below hb)
       have d3 := r5.out.cell 3
       have f3 := r5.out.free 3
       simp only [List.getElem?_cons_zero, List.getElem?_cons_succ] at d3
       obtain ⟨w10, hw10⟩ : ∃ w10, w2.setCell ⟨W1.heap.size, 3, none⟩ (.int .i64 180) = w10 := ⟨_, rfl⟩
       have q10 : Hid (RowV 36 w10 W1.heap.size [.slice none 0 0, (.int .i64 0), (.slice none 0 0), .int .i64 180]) := by rw [← hw10]; exact r5.out.set 3 _
       have hg10 : Hid (w2.grownBy w10 (some W1.heap.size)) := by rw [← hw10]; exact setCell_grown _ W1.heap.size _ _
       clear hb hrg)
    | (with_reducible refine wpList_load_at rfl 36 (.tmp 4) rfl Tryz.underlying36 rfl sT rfl q10.out.boxed.all ?_)
    | ((with_reducible refine wpList_store_at rfl 36 (.tmp 4) (.tmp 9) rfl (o := 0) (vs := [.slice none 0 0, (.int .i64 0), (.slice none 0 0), .int .i64 180]) rfl rfl q10.out sT (Nat.le_refl _) honeT ?_)
       intro w9 h9 hg9
       have q9 : Hid (RowV 36 w9 W1.heap.size [.slice none 0 0, (.int .i64 0), (.slice none 0 0), .int .i64 180]) := h9
       have hg9' := Lib.hid hg9
       clear h9 hg9 d3 f3 hw10))
  have m0 := q9.out.cell 0
  have m1 := q9.out.cell 1
  have m2 := q9.out.cell 2
  have m3 := q9.out.cell 3
  simp only [List.getElem?_cons_zero, List.getElem?_cons_succ] at m0 m1 m2 m3
  have hgg := grown_trans hg10.out hg9'.out
  have hfin : Below w.heap.size w w9 := low_step hbW2.out hgg (by have := hs1.out; omega)
  exact bodyPost_ret (v := .agg #[.slice none 0 0, (.int .i64 0), (.slice none 0 0), .int .i64 180]) (by simp [results, Tryz.results13, go_sem, m0, m1, m2, m3]) rfl ⟨none, 0, 0, [], rfl, ⟨SlOn.none_ _, rfl, fun i v d h => by simp at h⟩, hfin⟩
end Go.Proofs.YtbgpppbcffpdbaaGreatDoor

/-! LocksMost: the law returns true, where the tables of modes are laid as the program's text lays them. -/
namespace Go.Proofs.YtbgpppbcffpdbaaGreatDoor
open Go.RowKit

def mostD (i : Nat) : QueD := ⟨⟨0, true, i⟩, [⟨1, 3⟩], []⟩
def mostL (n : Nat) : List QueD := (List.range n).map mostD
theorem most_len (n : Nat) : (mostL n).length = n := by simp [mostL]
theorem most_at {n k : Nat} (h : k < n) : (mostL n)[k]? = some (mostD k) := by simp [mostL, List.getElem?_range h]
theorem most_or {n k : Nat} {d : QueD} (h : (mostL n)[k]? = some d) : k < n ∧ d = mostD k := by
  have hk := (List.getElem?_eq_some_iff.1 h).1
  rw [most_len] at hk
  rw [most_at hk] at h
  exact ⟨hk, by cases h; rfl⟩
theorem most_mem {n : Nat} {d : QueD} (h : d ∈ mostL n) : ∃ k, k < n ∧ d = mostD k := by
  obtain ⟨k, hk⟩ := List.mem_iff_getElem?.1 h
  exact ⟨k, most_or hk⟩
theorem most_sm (n : Nat) : Sm (mostL n) := sm_of (fun d hd => by obtain ⟨k, _, rfl⟩ := most_mem hd; exact ⟨by simp [mostD], by simp [mostD]⟩)
theorem most_fit (i : Nat) : QuFit (mostD i) := ⟨by simp [mostD, resB], ⟨fun h hh => by
    have : h = ⟨1, 3⟩ := by simpa [mostD] using hh
    subst this
    exact ⟨by decide, (by decide : modB true 3 = true)⟩, by simp [mostD, SortH], by simp [mostD], by show togB [⟨1, 3⟩] = true; decide +kernel⟩, ⟨fun a ha => by simp [mostD] at ha, fun j p a h => by simp [mostD] at h, fun a h => by simp [mostD] at h⟩⟩
theorem most_chk {n : Nat} (h : n ≤ 500) : ChkOk (mostL n) := ⟨by rw [most_len]; exact h, by
    have : txL (mostL n) = [] := by
      unfold txL
      rw [List.flatMap_eq_nil_iff]
      intro d hd
      obtain ⟨k, _, rfl⟩ := most_mem hd
      rfl
    rw [this]
    exact List.nodup_nil, fun d hd => by obtain ⟨k, _, rfl⟩ := most_mem hd; exact most_fit k, fun j p a hp ha => by
    obtain ⟨_, rfl⟩ := most_or hp
    obtain ⟨_, rfl⟩ := most_or ha
    show orI (cmpI 0 0) (cmpI (1 + (j : Int)) (1 + ((j + 1 : Nat) : Int))) < 0
    have h1 : cmpI (1 + (j : Int)) (1 + ((j + 1 : Nat) : Int)) = -1 := by
      unfold cmpI
      rw [if_pos (by omega)]
    rw [h1]
    decide⟩
theorem most_not {n : Nat} (h : 500 < n) : ¬ ChkOk (mostL n) := fun hc => by have := hc.len; rw [most_len] at this; omega
theorem most_no (n : Nat) (x : Int) : NoW (mostL n) x (mostL n).length := fun i d _ hd => by
  obtain ⟨_, rfl⟩ := most_or hd
  show waitI [] x < 0
  simp [waitI, fIdx]
theorem wants_go (q : Option Addr) (n c : Nat) (V : List QV) (N : Nat) (t m : Int) (k : Bool) (id : Int) (L' : List QueD) (wh er : Int) (hrs : resB ⟨t, k, id⟩ = true) (hmd : modB k m = true) (g0 : 0 ≤ id) (g1 : id < 65536) (hR : (500 < N ∧ L' = [] ∧ wh = 0 ∧ er = 180) ∨ (N ≤ 500 ∧ askF (mostL N) 2 ⟨t, k, id⟩ m = (L', wh, er))) (w : World) (h : LkOn w q n c V (mostL N)) :
    Calls Tryz.prog 13 #[.agg #[.int .i64 0, .int .i64 2, .int .i64 m, .int .i64 t, .bool k, .int .u16 id], .agg #[.slice q n c]] w (WantP L' wh er w) := by
  rcases hR with ⟨h1, rfl, rfl, rfl⟩ | ⟨h1, hF⟩
  · exact wants_no q n c V (mostL N) 0 2 m t k id w h (most_sm N) (most_not h1)
  · exact wants_ask q n c V (mostL N) 0 2 m t k id L' wh er (by decide) (by decide) w h (most_sm N) (most_chk h1) (fun u hu => rAsk_go q n c V (mostL N) 2 t k id m w u h hu (by decide) hrs hmd (wtOf_none (most_no N 2)) (most_chk h1) (most_sm N) L' wh er hF g0 g1)
theorem most_run {N : Nat} {t m : Int} {k : Bool} {id : Int} {L' : List QueD} {wh er : Int} (hrs : resB ⟨t, k, id⟩ = true) (hmd : modB k m = true) (hR : (500 < N ∧ L' = [] ∧ wh = 0 ∧ er = 180) ∨ (N ≤ 500 ∧ askF (mostL N) 2 ⟨t, k, id⟩ m = (L', wh, er))) : AskR (mostL N) 2 ⟨t, k, id⟩ m L' wh er := by
  rcases hR with ⟨h1, rfl, rfl, rfl⟩ | ⟨h1, hF⟩
  · exact .inl ⟨.inl ⟨.inl ⟨most_not h1, rfl⟩, by decide⟩, by decide, rfl, rfl⟩
  · exact .inr ⟨.inr ⟨.inr (.inr ⟨most_chk h1, by decide, rfl⟩), .inr (.inr ⟨hrs, hmd, .inr ⟨most_no N 2, rfl⟩⟩)⟩, hF⟩
theorem most_ans (N : Nat) (r : ResD) (m : Int) : ∃ L' wh er, (500 < N ∧ L' = [] ∧ wh = 0 ∧ er = 180) ∨ (N ≤ 500 ∧ askF (mostL N) 2 r m = (L', wh, er)) := by
  rcases Nat.lt_or_ge 500 N with h | h
  · exact ⟨[], 0, 180, .inl ⟨h, rfl, rfl, rfl⟩⟩
  · exact ⟨_, _, _, .inr ⟨h, rfl⟩⟩

abbrev zT : List Value := [.slice none 0 0, .int .i64 0, .slice none 0 0, .int .i64 0]
theorem row_get {T : TypeId} {w : World} {g : Nat} {cs : List Value} (h : RowV T w g cs) {a : Addr} (ha : a.block = g) {v : Value} (hv : w.cell? a = some v) : cs[a.off]? = some v := by
  unfold World.cell? at hv
  unfold RowV at h
  rw [ha, h] at hv
  simp only at hv
  split at hv
  · cases hv
  · simpa using hv
theorem add_off2 (a : Addr) (k j : Nat) : ((a.add k).add j).off = a.off + k + j := by
  unfold Addr.add
  by_cases h1 : k = 0 <;> by_cases h2 : j = 0 <;> simp [h1, h2]
/-- what is written into a box that stands as it was made is no part of what reads as a row of these -/
theorem SlOn.box {α : Type} [Cel α] {w w' : World} {q : Option Addr} {n c g : Nat} {l : List α} (h : SlOn w q n c l) (hr : RowV 36 w g zT) (hg : w.grownBy w' (some g)) (hno : ∀ (r : α) (o : Nat), ¬ ∀ j x, (Cel.cells r)[j]? = some x → zT[o + j]? = some x) : SlOn w' q n c l :=
  ⟨h.len, h.le, h.cap, h.nil, fun i r hi => by
    obtain ⟨a, ha, hc⟩ := h.get i r hi
    refine ⟨a, ha, fun j x hj => ?_⟩
    by_cases hb : a.block = g
    · exact absurd (fun j x hj => by
        have h1 := row_get hr (by rw [add_block2]; exact hb) (hc j x hj)
        rw [add_off2] at h1
        exact h1) (hno r _)
    · have hlt := cell_in (hc j x hj)
      rw [add_block2] at hlt
      rw [World.cell?_of_block (w := w) (by rw [add_block2]; exact hg.block _ hlt (fun e => hb (by simpa using e)))]
      exact hc j x hj⟩
theorem LkOn.box {w w' : World} {q : Option Addr} {n c g : Nat} {V : List QV} {L : List QueD} (h : LkOn w q n c V L) (hr : RowV 36 w g zT) (hg : w.grownBy w' (some g)) : LkOn w' q n c V L :=
  ⟨h.sl.box hr hg (fun r o hh => by
    have h1 := hh 1 _ rfl
    rcases o with _ | _ | _ | o <;> simp [zT] at h1), h.len, fun i v d h1 h2 => by
    have h3 := h.on i v d h1 h2
    refine ⟨h3.res, h3.ok, h3.hs.box hr hg (fun r o hh => ?_), h3.ws.box hr hg (fun r o hh => ?_)⟩
    · have h1 := hh 0 _ rfl
      have h2 := hh 1 _ rfl
      rcases o with _ | _ | _ | _ | o <;> simp [zT] at h1 h2
    · have h1 := hh 0 _ rfl
      have h2 := hh 1 _ rfl
      rcases o with _ | _ | _ | _ | o <;> simp [zT] at h1 h2⟩
def ToldP (L' : List QueD) (wh er : Int) (w : World) (v : Value) : Prop := ∃ q n c V gq gn gc, v = .agg #[.slice q n c, .int .i64 wh, .slice gq gn gc, .int .i64 er] ∧ LkOn w q n c V L'
def BoxP (lo : Nat) (w : World) (v : Value) : Prop := ∃ g, v = .pointer (some ⟨g, 0, none⟩) ∧ lo ≤ g ∧ RowV 36 w g zT
structure MK (w0 : World) (L' : List QueD) (wh er : Int) (x y z u : Option Value) (w : World) : Prop where
  bl : Below w0.heap.size w0 w
  t1 : ∀ v, x = some v → ToldP L' wh er w v
  t2 : ∀ v, y = some v → ToldP L' wh er w v
  b1 : ∀ v, z = some v → BoxP w0.heap.size w v
  b2 : ∀ v, u = some v → BoxP w0.heap.size w v
  ne : ∀ g g', z = some (.pointer (some ⟨g, 0, none⟩)) → u = some (.pointer (some ⟨g', 0, none⟩)) → g ≠ g'
theorem ToldP.below {L' : List QueD} {wh er : Int} {w w' : World} {v : Value} (h : ToldP L' wh er w v) (hb : Below w.heap.size w w') : ToldP L' wh er w' v := by
  obtain ⟨q, n, c, V, gq, gn, gc, e, h⟩ := h
  exact ⟨q, n, c, V, gq, gn, gc, e, h.below hb (Nat.le_refl _)⟩
theorem BoxP.below {lo : Nat} {w w' : World} {v : Value} (h : BoxP lo w v) (hb : Below w.heap.size w w') : BoxP lo w' v := by
  obtain ⟨g, e, h1, h⟩ := h
  exact ⟨g, e, h1, h.below hb⟩
theorem MK.below {w0 : World} {L' : List QueD} {wh er : Int} {x y z u : Option Value} {w w' : World} (h : MK w0 L' wh er x y z u w) (hb : Below w.heap.size w w') : MK w0 L' wh er x y z u w' :=
  ⟨below_step hb h.bl, fun v e => (h.t1 v e).below hb, fun v e => (h.t2 v e).below hb, fun v e => (h.b1 v e).below hb, fun v e => (h.b2 v e).below hb, h.ne⟩
theorem MK.start (w0 : World) (L' : List QueD) (wh er : Int) : MK w0 L' wh er none none none none w0 :=
  ⟨Below.refl _ _, fun v e => (by cases e), fun v e => (by cases e), fun v e => (by cases e), fun v e => (by cases e), fun g g' e => (by cases e)⟩
theorem MK.one {w0 : World} {L' : List QueD} {wh er : Int} {z u : Option Value} {w w' : World} {v : Value} (h : MK w0 L' wh er none none z u w) (hb : Below w.heap.size w w') (hv : ToldP L' wh er w' v) : MK w0 L' wh er (some v) none z u w' :=
  ⟨(h.below hb).bl, fun a e => (by cases e; exact hv), (h.below hb).t2, (h.below hb).b1, (h.below hb).b2, h.ne⟩
theorem MK.two {w0 : World} {L' : List QueD} {wh er : Int} {x z u : Option Value} {w w' : World} {v : Value} (h : MK w0 L' wh er x none z u w) (hb : Below w.heap.size w w') (hv : ToldP L' wh er w' v) : MK w0 L' wh er x (some v) z u w' :=
  ⟨(h.below hb).bl, (h.below hb).t1, fun a e => (by cases e; exact hv), (h.below hb).b1, (h.below hb).b2, h.ne⟩
theorem MK.boxz {w0 : World} {L' : List QueD} {wh er : Int} {x y u : Option Value} {w w' : World} (h : MK w0 L' wh er x y none u w) (hw : w.alloc (.cells zT.toArray 36) = w') : MK w0 L' wh er x y (some (.pointer (some ⟨w.heap.size, 0, none⟩))) u w' := by
  have hb := (one_box (xs := zT) hw).1
  have hr : RowV 36 w' w.heap.size zT := RowV.made' (cs := zT) hw
  refine ⟨(h.below hb).bl, (h.below hb).t1, (h.below hb).t2, fun a e => ?_, (h.below hb).b2, fun g g' e1 e2 e => ?_⟩
  · cases e
    exact ⟨_, rfl, h.bl.size, hr⟩
  · cases e1
    obtain ⟨g2, e3, _, h3⟩ := h.b2 _ e2
    cases e3
    have := h3.lt
    omega
theorem MK.boxu {w0 : World} {L' : List QueD} {wh er : Int} {x y z : Option Value} {w w' : World} (h : MK w0 L' wh er x y z none w) (hw : w.alloc (.cells zT.toArray 36) = w') : MK w0 L' wh er x y z (some (.pointer (some ⟨w.heap.size, 0, none⟩))) w' := by
  have hb := (one_box (xs := zT) hw).1
  have hr : RowV 36 w' w.heap.size zT := RowV.made' (cs := zT) hw
  refine ⟨(h.below hb).bl, (h.below hb).t1, (h.below hb).t2, (h.below hb).b1, fun a e => ?_, fun g g' e1 e2 e => ?_⟩
  · cases e
    exact ⟨_, rfl, h.bl.size, hr⟩
  · cases e2
    obtain ⟨g2, e3, _, h3⟩ := h.b1 _ e1
    cases e3
    have := h3.lt
    omega
theorem run_allocT (b : Act) (o : Oper) (ho : o.op = .alloc 36) (w : World) : (execOp b.eval o).run Tryz.prog w = .ok (.value (.pointer (some ⟨w.heap.size, 0, none⟩))) (w.alloc (.cells zT.toArray 36)) := by
  unfold execOp
  rw [ho]
  go_simp

set_option maxRecDepth 100000 in
set_option maxHeartbeats 4000000 in
theorem mostlaw_any (more : Int) (key : Bool) (w : World) (hL : Lay w) :
    Calls Tryz.prog 5 #[.int .i64 more, .bool key] w (fun e w' => e = .returned (.bool true) ∧ Below w.heap.size w w') := by
  have hLa := Lib.hid hL
  have hS : Hid (∀ u, Below w.heap.size w u → Lay u) := fun u hu => ⟨hLa.out.goes hu, hLa.out.cov hu⟩
  have hwk := Lib.hid (wakes_any w hL)
  obtain ⟨N, hN, hN5⟩ : ∃ N : Nat, wrap64 (499 + (wrap64 ((more.tmod 3) + 3)).tmod 3) = (N : Int) ∧ Hid (N ≤ 501) := by
    have a1 : -3 < more.tmod 3 := by have := Int.lt_tmod_of_pos more (show (0 : Int) < 3 by decide); omega
    have a2 : more.tmod 3 < 3 := Int.tmod_lt_of_pos more (by decide)
    have hw64 : ∀ z : Int, 0 ≤ z → z < 1000 → wrap64 z = z := fun z h1 h2 => by unfold wrap64; omega
    have a3 : wrap64 (more.tmod 3 + 3) = more.tmod 3 + 3 := hw64 _ (by omega) (by omega)
    have a4 : 0 ≤ (more.tmod 3 + 3).tmod 3 := Int.tmod_nonneg _ (by omega)
    have a5 : (more.tmod 3 + 3).tmod 3 < 3 := Int.tmod_lt_of_pos _ (by decide)
    rw [a3, hw64 _ (by omega) (by omega)]
    exact ⟨(499 + (more.tmod 3 + 3).tmod 3).toNat, by omega, by show _ ≤ _; omega⟩
  clear hL
  go_enter Tryz.func5, Tryz.ntmps5
  go_wp2_with (first
    | (go_at_call 9
       refine hwk.out.mono ?_
       rintro e w1 ⟨rfl, hb⟩
       have hb1 := Lib.hid hb
       obtain ⟨w2, hw2⟩ : ∃ u, w1.alloc (.cells #[.slice none 0 0] 24) = u := ⟨_, rfl⟩
       have hb2 := Lib.hid (one_box (xs := [.slice none 0 0]) hw2)
       have r2 : Hid (RowV 24 w2 w1.heap.size [.slice none 0 0]) := RowV.made' (cs := [.slice none 0 0]) hw2
       have hbw2 := Lib.hid (below_step hb2.out.1 hb)
       clear hb hwk))
  clear hw2
  have hzz : Hid (w1.heap.size < w2.heap.size) := by show _ < _; have := hb2.out.2.2; omega
  have hstart : Hid (FwR w2 w1.heap.size (mostL N) 0 none 0 [] w2) := ⟨OwnS.nil _ _ _, fun j v d h => (by simp at h), fun a h => (by cases h), r2.out, Fr.refl _ _⟩
  have hN5' := hN5.out
  go_loopw [19] (fun v19 wr => ∃ (k : Nat) (qo : Option Addr) (co : Nat) (Vk : List QV), k ≤ N ∧ v19 = .int .i64 k ∧ Hid (FwR w2 w1.heap.size (mostL N) k qo co Vk wr)) (fun v19 _ => N - (intOf v19).toNat)
  case atStart => exact ⟨0, none, 0, [], Nat.zero_le _, rfl, hstart⟩
  case round =>
    obtain ⟨k, qo, co, Vk, hk, rfl, hr⟩ := hrel
    obtain ⟨wo, rfl⟩ : ∃ x, x = wr := ⟨_, rfl⟩
    have hbo : Hid (Below w.heap.size w wo) := hbw2.out.trans (hr.out.fr.below hbw2.out.size (fun j e => by subst e; exact hb1.out.size))
    by_cases hlt : k < N
    · have i1 : (k : Int) < N := by omega
      have hwr : IntKind.u16.wrap (k : Int) = k := by simp [IntKind.wrap, IntKind.bits]; omega
      obtain ⟨WA, hWA⟩ : ∃ x, wo.alloc (.cells #[.int .i64 1, .int .i64 3] 45) = x := ⟨_, rfl⟩
      have hrA : Hid (RowV 45 WA wo.heap.size (Cel.cells (⟨1, 3⟩ : HoldD))) := RowV.made' hWA
      have hbA := Lib.hid (one_box (xs := [.int .i64 1, .int .i64 3]) hWA)
      obtain ⟨WB, hWB⟩ : ∃ x, WA.alloc (.cells #[.int .i64 0, .bool true, .int .u16 k, .slice (some ⟨wo.heap.size, 0, none⟩) 1 1, .slice none 0 0] 43) = x := ⟨_, rfl⟩
      have hbB := Lib.hid (one_box (xs := [.int .i64 0, .bool true, .int .u16 k, .slice (some ⟨wo.heap.size, 0, none⟩) 1 1, .slice none 0 0]) hWB)
      have hrB : Hid (RowV 43 WB WA.heap.size (Cel.cells (⟨⟨0, true, k⟩, some ⟨wo.heap.size, 0, none⟩, 1, 1, none, 0, 0⟩ : QV))) := RowV.made' hWB
      have hbAB := Lib.hid (below_step hbB.out.1 hbA.out.1)
      have own : Hid (OwnS 43 WB w2.heap.size (.slice qo k co) Vk) := hr.out.row.below hbAB.out
      have lit := Lib.hid (OwnS.single hrB.out).reads
      have bx0 := Lib.hid hr.out.box
      have bx7 := Lib.hid (bx0.out.below hbAB.out)
      have hzB : Hid (w2.heap.size ≤ WB.heap.size) := by show _ ≤ _; have h1 := hr.out.fr.size; have h2 := hbAB.out.size; omega
      have k6 : wo.cell? ⟨w1.heap.size, 0, none⟩ = some (.slice qo k co) := bx0.out.cell 0
      go_wp2_with (first
        | (at_builtin
           refine wpList_append_l Tryz.underlying22 infoQue rfl rfl (.tmp 23) (.tmp 30) rfl rfl rfl own.out lit.out (by omega) (by omega) hzB.out ?_
           intro qo' co' u7 row7 hg7 hq7
           have row7' := Lib.hid row7
           have hg7' := Lib.hid hg7
           have hq7' := Lib.hid hq7
           have x7 : Hid (RowV 24 u7 w1.heap.size [.slice qo k co]) := bx7.out.block (hg7.block _ bx7.out.lt (fun e => by
             cases hqq : qo with
             | none => rw [hqq] at e; cases e
             | some a =>
               rw [hqq] at e
               have e2 : w1.heap.size = a.block := by simpa using e
               have := (hr.out.row.far a hqq).1
               have := hzz.out
               omega))
           have c7 : u7.cell? ⟨w1.heap.size, 0, none⟩ = some (.slice qo k co) := x7.out.cell 0
           have f7 : u7.frozen? ⟨w1.heap.size, 0, none⟩ = false := x7.out.free 0
           clear row7 hg7 hq7 k6))
      go_roundw
      case rel =>
        have x8 := x7.out.set 0 (.slice qo' (k + 1) co')
        refine ⟨k + 1, by omega, by omega, qo', co', Vk ++ [⟨⟨0, true, k⟩, some ⟨wo.heap.size, 0, none⟩, 1, 1, none, 0, 0⟩], ?_⟩
        refine FwR.step hr.out hzz.out (by rw [most_len]; exact hlt) (most_at hlt) hbAB.out ?_ row7'.out hg7'.out hq7'.out (setCell_grown u7 w1.heap.size _ _) x8
        exact ⟨rfl, ⟨by show (0 : Int) ≤ k; omega, by show (k : Int) < 65536; omega⟩, (OwnS.single hrA.out).below hbB.out.1, OwnS.nil _ _ _⟩
      case measure => simp [intOf]; omega
    · obtain rfl : N = k := by omega
      have hlk : Hid (LkOn wo qo N co Vk (mostL N)) := ⟨hr.out.row.reads, most_len N, fun i v d h1 h2 => by
        have h3 := hr.out.on i v d h1 h2
        obtain ⟨_, rfl⟩ := most_or h2
        exact h3.on⟩
      have bx := Lib.hid hr.out.box
      obtain ⟨wz, hwz⟩ : ∃ x, wo.alloc (.cells #[.int .i64 0, .int .i64 0, .int .i64 0, .int .i64 0, .bool false, .int .u16 0] 32) = x := ⟨_, rfl⟩
      have hbz := Lib.hid (one_box (xs := [.int .i64 0, .int .i64 0, .int .i64 0, .int .i64 0, .bool false, .int .u16 0]) hwz)
      have rz : Hid (RowV 32 wz wo.heap.size [.int .i64 0, .int .i64 0, .int .i64 0, .int .i64 0, .bool false, .int .u16 0]) := RowV.made' (cs := [.int .i64 0, .int .i64 0, .int .i64 0, .int .i64 0, .bool false, .int .u16 0]) hwz
      cases key with
      | true =>
        have hone1 : ∀ y ∈ ([.int .i64 0, .int .i64 2, .int .i64 1, .int .i64 1, .bool false, .int .u16 0] : List Value), y.oneCell' = true := fun y hy => by simp only [List.mem_cons, List.not_mem_nil, or_false] at hy; rcases hy with rfl | rfl | rfl | rfl | rfl | rfl <;> rfl
        have so1 := sizeOp (.int .i64 0) (.int .i64 2) (.int .i64 1) (.int .i64 1) (.bool false) (.int .u16 0)
        have hone2 : ∀ y ∈ ([.int .i64 0, .int .i64 2, .int .i64 3, .int .i64 0, .bool true, .int .u16 3] : List Value), y.oneCell' = true := fun y hy => by simp only [List.mem_cons, List.not_mem_nil, or_false] at hy; rcases hy with rfl | rfl | rfl | rfl | rfl | rfl <;> rfl
        have so2 := sizeOp (.int .i64 0) (.int .i64 2) (.int .i64 3) (.int .i64 0) (.bool true) (.int .u16 3)
        obtain ⟨L', wh, er, hR⟩ := most_ans N ⟨0, true, 3⟩ 3
        have hR' := Lib.hid hR
        clear hR
        go_wp2_with (first
          | ((with_reducible refine wpList_store_at rfl 32 (.tmp 8) (.tmp 35) rfl (o := 0) (vs := [.int .i64 0, .int .i64 2, .int .i64 1, .int .i64 1, .bool false, .int .u16 0]) rfl rfl rz.out so1 (Nat.le_refl _) hone1 ?_)
             intro v1 h9 hg9
             have q1 : Hid (RowV 32 v1 wo.heap.size [.int .i64 0, .int .i64 2, .int .i64 1, .int .i64 1, .bool false, .int .u16 0]) := h9
             have hv1 : Hid (Below wo.heap.size wo v1) := low_step hbz.out.1 hg9 (Nat.le_refl _)
             clear h9 hg9)
          | ((with_reducible refine wpList_store_at rfl 32 (.tmp 8) (.tmp 38) rfl (o := 0) (vs := [.int .i64 0, .int .i64 2, .int .i64 3, .int .i64 0, .bool true, .int .u16 3]) rfl rfl q1.out so2 (Nat.le_refl _) hone2 ?_)
             intro v2 h9 hg9
             have q2 : Hid (RowV 32 v2 wo.heap.size [.int .i64 0, .int .i64 2, .int .i64 3, .int .i64 0, .bool true, .int .u16 3]) := h9
             have hv2 : Hid (Below wo.heap.size wo v2) := low_step hv1.out hg9 (Nat.le_refl _)
             clear h9 hg9)
          | fail)
        clear hwz hone1
        have hvv := Lib.hid (below_step hv2.out hbo.out)
        have hop : Hid (∀ u, Below v2.heap.size v2 u → ∀ j x, ([.int .i64 0, .int .i64 2, .int .i64 3, .int .i64 0, .bool true, .int .u16 3] : List Value)[j]? = some x → u.cell? ((⟨wo.heap.size, 0, none⟩ : Addr).add j) = some x) := fun u hu => (q2.out.boxed.below hu (Nat.le_refl _)).all
        have hlb : Hid (∀ u, Below v2.heap.size v2 u → ∀ j x, ([.slice qo N co] : List Value)[j]? = some x → u.cell? ((⟨w1.heap.size, 0, none⟩ : Addr).add j) = some x) := fun u hu => ((bx.out.below hv2.out).boxed.below hu (Nat.le_refl _)).all
        have hlv : Hid (∀ u, Below v2.heap.size v2 u → LkOn u qo N co Vk (mostL N)) := fun u hu => hlk.out.below (below_step hu hv2.out) (Nat.le_refl _)
        have sof := sizeOp (.int .i64 0) (.int .i64 2) (.int .i64 3) (.int .i64 0) (.bool true) (.int .u16 3)
        have slk := sizeLks (.slice qo N co)
        have hLv : Hid (∀ u, Below v2.heap.size v2 u → Lay u) := fun u hu => hS.out u (below_step hu hvv.out)
        refine wp_region_held (S := fun u => Below v2.heap.size v2 u) (by kernel_rfl) ?_
        change wpAnyH _ _ _ _ _ _ _ _ (World.drew v2)
        have hS0 : Below v2.heap.size v2 (v2).drew := below_drew' _
        generalize World.drew v2 = u0 at hS0 ⊢
        refine held_tk (i := 0) (dst := some 39) (v := .agg #[.int .i64 0, .int .i64 2, .int .i64 3, .int .i64 0, .bool true, .int .u16 3]) rfl rfl (y_load_agg 32 (.tmp 8) rfl rfl rfl (fun u hu => run_loadVar_at Tryz.underlying32 rfl sof _ (hop.out u hu))) hS0 ?_
        go_frame
        refine held_tk (i := 1) (dst := some 40) (v := .agg #[.slice qo N co]) rfl rfl (y_load_agg 24 (.tmp 5) rfl rfl rfl (fun u hu => run_loadVar_at Tryz.underlying24 rfl slk _ (hlb.out u hu))) hS0 ?_
        go_frame
        refine held_tk (i := 3) (dst := some 42) (v := .agg #[.int .i64 0, .int .i64 2, .int .i64 3, .int .i64 0, .bool true, .int .u16 3]) rfl rfl (y_load_agg 32 (.tmp 8) rfl rfl rfl (fun u hu => run_loadVar_at Tryz.underlying32 rfl sof _ (hop.out u hu))) hS0 ?_
        go_frame
        refine held_tk (i := 4) (dst := some 43) (v := .agg #[.slice qo N co]) rfl rfl (y_load_agg 24 (.tmp 5) rfl rfl rfl (fun u hu => run_loadVar_at Tryz.underlying24 rfl slk _ (hlb.out u hu))) hS0 ?_
        go_frame
        have hS1 := Lib.hid hS0
        refine held_calls2 (fun a b c d => #[true, true, a, true, true, b, c, d, false, false]) (MK u0 L' wh er) (i := 2) (j := 5) (p := 6) (q := 7) (di := 41) (dj := 44) (dp := 9) (dq := 10) rfl rfl rfl rfl rfl rfl rfl rfl (by decide) rfl rfl rfl rfl rfl (fun _ _ _ => rfl) (fun _ _ _ => rfl) (fun _ _ _ => rfl) (fun _ _ _ => rfl) (fun a b c d h1 h2 => by cases a <;> cases b <;> cases c <;> cases d <;> first | (simp at h1; done) | (simp at h2; done) | kernel_rfl) ?_ ?_ ?_ ?_ (MK.start _ _ _ _) ?_
        · intro z u w' hk
          have hb' := below_step hk.bl hS1.out
          refine ⟨12, #[.agg #[.int .i64 0, .int .i64 2, .int .i64 3, .int .i64 0, .bool true, .int .u16 3], .agg #[.slice qo N co]], _, ?_, run_ask qo N co Vk (mostL N) 0 2 3 0 true 3 L' wh er (by decide) (by decide) (most_run (by decide) (by decide) hR'.out) w' (hLv.out _ hb') (hlv.out _ hb') (most_sm N) (by have := hN5.out; omega) (by decide) (by decide), ?_⟩
          · cases z <;> cases u <;> simp only [putX] <;> go_simp
          · rintro e w4 ⟨q5, n5, c5, V5, gq, gn, gc, rfl, k1, k2, k3⟩
            exact ⟨_, rfl, below_step k3 hb', hk.one k3 ⟨q5, n5, c5, V5, gq, gn, gc, rfl, k1.lk⟩⟩
        · intro x z u w' hk
          have hb' := below_step hk.bl hS1.out
          refine ⟨13, #[.agg #[.int .i64 0, .int .i64 2, .int .i64 3, .int .i64 0, .bool true, .int .u16 3], .agg #[.slice qo N co]], _, ?_, wants_go qo N co Vk N 0 3 true 3 L' wh er (by decide) (by decide) (by decide) (by decide) hR'.out w' (hlv.out _ hb'), ?_⟩
          · cases z <;> cases u <;> simp only [putX] <;> go_simp
          · rintro e w4 ⟨q5, n5, c5, V5, rfl, k1, k3⟩
            exact ⟨_, rfl, below_step k3 hb', hk.two k3 ⟨q5, n5, c5, V5, none, 0, 0, rfl, k1⟩⟩
        · intro b x y u w' hk
          exact ⟨_, _, run_allocT b _ rfl w', below_step (below_step (one_box (xs := zT) rfl).1 hk.bl) hS1.out, hk.boxz rfl⟩
        · intro b x y z w' hk
          exact ⟨_, _, run_allocT b _ rfl w', below_step (below_step (one_box (xs := zT) rfl).1 hk.bl) hS1.out, hk.boxu rfl⟩
        intro x y z u w5 hk
        obtain ⟨q5, n5, c5, V5, gq, gn, gc, rfl, k5⟩ := hk.t1 _ rfl
        obtain ⟨q6, n6, c6, V6, rq, rn, rc, rfl, k6⟩ := hk.t2 _ rfl
        obtain ⟨g1, rfl, hg1, r1⟩ := hk.b1 _ rfl
        obtain ⟨g2, rfl, hg2, r2'⟩ := hk.b2 _ rfl
        have hne := hk.ne g1 g2 rfl rfl
        have hb5 := Lib.hid (below_step hk.bl hS1.out)
        have hz5 : Hid (v2.heap.size ≤ u0.heap.size) := hS1.out.size
        have sT1 := sizeTold (.slice q5 n5 c5) (.int .i64 wh) (.slice gq gn gc) (.int .i64 er)
        have sT2 := sizeTold (.slice q6 n6 c6) (.int .i64 wh) (.slice rq rn rc) (.int .i64 er)
        have on1 : ∀ y ∈ ([.slice q5 n5 c5, .int .i64 wh, .slice gq gn gc, .int .i64 er] : List Value), y.oneCell' = true := fun y hy => by simp only [List.mem_cons, List.not_mem_nil, or_false] at hy; rcases hy with rfl | rfl | rfl | rfl <;> rfl
        have on2 : ∀ y ∈ ([.slice q6 n6 c6, .int .i64 wh, .slice rq rn rc, .int .i64 er] : List Value), y.oneCell' = true := fun y hy => by simp only [List.mem_cons, List.not_mem_nil, or_false] at hy; rcases hy with rfl | rfl | rfl | rfl <;> rfl
        obtain ⟨w6, st6, rr6, gr6⟩ := run_storeVar_at (o := 0) (vs := [.slice q5 n5 c5, .int .i64 wh, .slice gq gn gc, .int .i64 er]) r1 sT1 (Nat.le_refl _) on1
        have r6 : RowV 36 w6 g1 [.slice q5 n5 c5, .int .i64 wh, .slice gq gn gc, .int .i64 er] := rr6
        have r62 : RowV 36 w6 g2 zT := r2'.block (gr6.block _ r2'.lt (fun e => hne (by simpa using e.symm)))
        obtain ⟨w7, st7, rr7, gr7⟩ := run_storeVar_at (o := 0) (vs := [.slice q6 n6 c6, .int .i64 wh, .slice rq rn rc, .int .i64 er]) r62 sT2 (Nat.le_refl _) on2
        have r72 : RowV 36 w7 g2 [.slice q6 n6 c6, .int .i64 wh, .slice rq rn rc, .int .i64 er] := rr7
        have r71 : RowV 36 w7 g1 [.slice q5 n5 c5, .int .i64 wh, .slice gq gn gc, .int .i64 er] := r6.block (gr7.block _ r6.lt (fun e => hne (by simpa using e)))
        have hb6 : Below v2.heap.size v2 w6 := low_step hb5.out gr6 (by have := hz5.out; omega)
        have hb7 : Below v2.heap.size v2 w7 := low_step hb6 gr7 (by have := hz5.out; omega)
        go_frame
        refine held_skip (i := 8) (dst := none) rfl rfl (by kernel_rfl) rfl (run_store_op (x := .tmp 9) (y := .tmp 41) rfl rfl rfl st6) hb6 ?_
        go_frame
        refine held_skip (i := 9) (dst := none) rfl rfl (by kernel_rfl) rfl (run_store_op (x := .tmp 10) (y := .tmp 44) rfl rfl rfl st7) hb7 ?_
        go_frame
        refine wpAnyH_done (by kernel_rfl) ?_ _
        clear st6 st7 rr6 rr7
        have hb7' := Lib.hid hb7
        have r71' := Lib.hid r71
        have r72' := Lib.hid r72
        have p1 := r71.cell 3
        have p2 := r72.cell 3
        have p3 := r71.cell 1
        have p4 := r72.cell 1
        have p5 := r71.cell 0
        have p6 := r72.cell 0
        simp only [List.getElem?_cons_zero, List.getElem?_cons_succ] at p1 p2 p3 p4 p5 p6
        have hlA : Hid (∀ j x, ([.slice q5 n5 c5] : List Value)[j]? = some x → w7.cell? ((⟨g1, 0, none⟩ : Addr).add j) = some x) := fun j x hj => r71'.out.boxed.part (o := 0) (ys := [.slice q5 n5 c5]) (fun j v hj => by match j, hj with | 0, h => exact h | j + 1, h => simp at h) j x hj
        have hlB : Hid (∀ j x, ([.slice q6 n6 c6] : List Value)[j]? = some x → w7.cell? ((⟨g2, 0, none⟩ : Addr).add j) = some x) := fun j x hj => r72'.out.boxed.part (o := 0) (ys := [.slice q6 n6 c6]) (fun j v hj => by match j, hj with | 0, h => exact h | j + 1, h => simp at h) j x hj
        have sA := sizeLks (.slice q5 n5 c5)
        have sB := sizeLks (.slice q6 n6 c6)
        have hsame := Lib.hid (rsame_any q5 n5 c5 V5 q6 n6 c6 V6 L' w7 ((k5.box r1 gr6).box r62 gr7) ((k6.box r1 gr6).box r62 gr7))
        clear hb6 hb7 r6 r62 r72 r71 gr6 gr7 r1 r2' hk k5 k6 on1 on2 sT1 sT2
        go_wp2_with (first
          | (go_at_call 15
             refine hsame.out.mono ?_
             rintro e w8 ⟨rfl, hb8⟩
             have hfin := Lib.hid (below_step (below_step hb8 hb7'.out) hvv.out)
             clear hb8 hsame))
        go_ret
        exact ⟨rfl, hfin.out⟩
      | false =>
        have hone1 : ∀ y ∈ ([.int .i64 0, .int .i64 2, .int .i64 1, .int .i64 1, .bool false, .int .u16 0] : List Value), y.oneCell' = true := fun y hy => by simp only [List.mem_cons, List.not_mem_nil, or_false] at hy; rcases hy with rfl | rfl | rfl | rfl | rfl | rfl <;> rfl
        have so1 := sizeOp (.int .i64 0) (.int .i64 2) (.int .i64 1) (.int .i64 1) (.bool false) (.int .u16 0)
        obtain ⟨L', wh, er, hR⟩ := most_ans N ⟨1, false, 0⟩ 1
        have hR' := Lib.hid hR
        clear hR
        go_wp2_with (first
          | ((with_reducible refine wpList_store_at rfl 32 (.tmp 8) (.tmp 35) rfl (o := 0) (vs := [.int .i64 0, .int .i64 2, .int .i64 1, .int .i64 1, .bool false, .int .u16 0]) rfl rfl rz.out so1 (Nat.le_refl _) hone1 ?_)
             intro v1 h9 hg9
             have q1 : Hid (RowV 32 v1 wo.heap.size [.int .i64 0, .int .i64 2, .int .i64 1, .int .i64 1, .bool false, .int .u16 0]) := h9
             have hv1 : Hid (Below wo.heap.size wo v1) := low_step hbz.out.1 hg9 (Nat.le_refl _)
             clear h9 hg9)
          | fail)
        clear hwz hone1
        have hvv := Lib.hid (below_step hv1.out hbo.out)
        have hop : Hid (∀ u, Below v1.heap.size v1 u → ∀ j x, ([.int .i64 0, .int .i64 2, .int .i64 1, .int .i64 1, .bool false, .int .u16 0] : List Value)[j]? = some x → u.cell? ((⟨wo.heap.size, 0, none⟩ : Addr).add j) = some x) := fun u hu => (q1.out.boxed.below hu (Nat.le_refl _)).all
        have hlb : Hid (∀ u, Below v1.heap.size v1 u → ∀ j x, ([.slice qo N co] : List Value)[j]? = some x → u.cell? ((⟨w1.heap.size, 0, none⟩ : Addr).add j) = some x) := fun u hu => ((bx.out.below hv1.out).boxed.below hu (Nat.le_refl _)).all
        have hlv : Hid (∀ u, Below v1.heap.size v1 u → LkOn u qo N co Vk (mostL N)) := fun u hu => hlk.out.below (below_step hu hv1.out) (Nat.le_refl _)
        have sof := sizeOp (.int .i64 0) (.int .i64 2) (.int .i64 1) (.int .i64 1) (.bool false) (.int .u16 0)
        have slk := sizeLks (.slice qo N co)
        have hLv : Hid (∀ u, Below v1.heap.size v1 u → Lay u) := fun u hu => hS.out u (below_step hu hvv.out)
        refine wp_region_held (S := fun u => Below v1.heap.size v1 u) (by kernel_rfl) ?_
        change wpAnyH _ _ _ _ _ _ _ _ (World.drew v1)
        have hS0 : Below v1.heap.size v1 (v1).drew := below_drew' _
        generalize World.drew v1 = u0 at hS0 ⊢
        refine held_tk (i := 0) (dst := some 39) (v := .agg #[.int .i64 0, .int .i64 2, .int .i64 1, .int .i64 1, .bool false, .int .u16 0]) rfl rfl (y_load_agg 32 (.tmp 8) rfl rfl rfl (fun u hu => run_loadVar_at Tryz.underlying32 rfl sof _ (hop.out u hu))) hS0 ?_
        go_frame
        refine held_tk (i := 1) (dst := some 40) (v := .agg #[.slice qo N co]) rfl rfl (y_load_agg 24 (.tmp 5) rfl rfl rfl (fun u hu => run_loadVar_at Tryz.underlying24 rfl slk _ (hlb.out u hu))) hS0 ?_
        go_frame
        refine held_tk (i := 3) (dst := some 42) (v := .agg #[.int .i64 0, .int .i64 2, .int .i64 1, .int .i64 1, .bool false, .int .u16 0]) rfl rfl (y_load_agg 32 (.tmp 8) rfl rfl rfl (fun u hu => run_loadVar_at Tryz.underlying32 rfl sof _ (hop.out u hu))) hS0 ?_
        go_frame
        refine held_tk (i := 4) (dst := some 43) (v := .agg #[.slice qo N co]) rfl rfl (y_load_agg 24 (.tmp 5) rfl rfl rfl (fun u hu => run_loadVar_at Tryz.underlying24 rfl slk _ (hlb.out u hu))) hS0 ?_
        go_frame
        have hS1 := Lib.hid hS0
        refine held_calls2 (fun a b c d => #[true, true, a, true, true, b, c, d, false, false]) (MK u0 L' wh er) (i := 2) (j := 5) (p := 6) (q := 7) (di := 41) (dj := 44) (dp := 9) (dq := 10) rfl rfl rfl rfl rfl rfl rfl rfl (by decide) rfl rfl rfl rfl rfl (fun _ _ _ => rfl) (fun _ _ _ => rfl) (fun _ _ _ => rfl) (fun _ _ _ => rfl) (fun a b c d h1 h2 => by cases a <;> cases b <;> cases c <;> cases d <;> first | (simp at h1; done) | (simp at h2; done) | kernel_rfl) ?_ ?_ ?_ ?_ (MK.start _ _ _ _) ?_
        · intro z u w' hk
          have hb' := below_step hk.bl hS1.out
          refine ⟨12, #[.agg #[.int .i64 0, .int .i64 2, .int .i64 1, .int .i64 1, .bool false, .int .u16 0], .agg #[.slice qo N co]], _, ?_, run_ask qo N co Vk (mostL N) 0 2 1 1 false 0 L' wh er (by decide) (by decide) (most_run (by decide) (by decide) hR'.out) w' (hLv.out _ hb') (hlv.out _ hb') (most_sm N) (by have := hN5.out; omega) (by decide) (by decide), ?_⟩
          · cases z <;> cases u <;> simp only [putX] <;> go_simp
          · rintro e w4 ⟨q5, n5, c5, V5, gq, gn, gc, rfl, k1, k2, k3⟩
            exact ⟨_, rfl, below_step k3 hb', hk.one k3 ⟨q5, n5, c5, V5, gq, gn, gc, rfl, k1.lk⟩⟩
        · intro x z u w' hk
          have hb' := below_step hk.bl hS1.out
          refine ⟨13, #[.agg #[.int .i64 0, .int .i64 2, .int .i64 1, .int .i64 1, .bool false, .int .u16 0], .agg #[.slice qo N co]], _, ?_, wants_go qo N co Vk N 1 1 false 0 L' wh er (by decide) (by decide) (by decide) (by decide) hR'.out w' (hlv.out _ hb'), ?_⟩
          · cases z <;> cases u <;> simp only [putX] <;> go_simp
          · rintro e w4 ⟨q5, n5, c5, V5, rfl, k1, k3⟩
            exact ⟨_, rfl, below_step k3 hb', hk.two k3 ⟨q5, n5, c5, V5, none, 0, 0, rfl, k1⟩⟩
        · intro b x y u w' hk
          exact ⟨_, _, run_allocT b _ rfl w', below_step (below_step (one_box (xs := zT) rfl).1 hk.bl) hS1.out, hk.boxz rfl⟩
        · intro b x y z w' hk
          exact ⟨_, _, run_allocT b _ rfl w', below_step (below_step (one_box (xs := zT) rfl).1 hk.bl) hS1.out, hk.boxu rfl⟩
        intro x y z u w5 hk
        obtain ⟨q5, n5, c5, V5, gq, gn, gc, rfl, k5⟩ := hk.t1 _ rfl
        obtain ⟨q6, n6, c6, V6, rq, rn, rc, rfl, k6⟩ := hk.t2 _ rfl
        obtain ⟨g1, rfl, hg1, r1⟩ := hk.b1 _ rfl
        obtain ⟨g2, rfl, hg2, r2'⟩ := hk.b2 _ rfl
        have hne := hk.ne g1 g2 rfl rfl
        have hb5 := Lib.hid (below_step hk.bl hS1.out)
        have hz5 : Hid (v1.heap.size ≤ u0.heap.size) := hS1.out.size
        have sT1 := sizeTold (.slice q5 n5 c5) (.int .i64 wh) (.slice gq gn gc) (.int .i64 er)
        have sT2 := sizeTold (.slice q6 n6 c6) (.int .i64 wh) (.slice rq rn rc) (.int .i64 er)
        have on1 : ∀ y ∈ ([.slice q5 n5 c5, .int .i64 wh, .slice gq gn gc, .int .i64 er] : List Value), y.oneCell' = true := fun y hy => by simp only [List.mem_cons, List.not_mem_nil, or_false] at hy; rcases hy with rfl | rfl | rfl | rfl <;> rfl
        have on2 : ∀ y ∈ ([.slice q6 n6 c6, .int .i64 wh, .slice rq rn rc, .int .i64 er] : List Value), y.oneCell' = true := fun y hy => by simp only [List.mem_cons, List.not_mem_nil, or_false] at hy; rcases hy with rfl | rfl | rfl | rfl <;> rfl
        obtain ⟨w6, st6, rr6, gr6⟩ := run_storeVar_at (o := 0) (vs := [.slice q5 n5 c5, .int .i64 wh, .slice gq gn gc, .int .i64 er]) r1 sT1 (Nat.le_refl _) on1
        have r6 : RowV 36 w6 g1 [.slice q5 n5 c5, .int .i64 wh, .slice gq gn gc, .int .i64 er] := rr6
        have r62 : RowV 36 w6 g2 zT := r2'.block (gr6.block _ r2'.lt (fun e => hne (by simpa using e.symm)))
        obtain ⟨w7, st7, rr7, gr7⟩ := run_storeVar_at (o := 0) (vs := [.slice q6 n6 c6, .int .i64 wh, .slice rq rn rc, .int .i64 er]) r62 sT2 (Nat.le_refl _) on2
        have r72 : RowV 36 w7 g2 [.slice q6 n6 c6, .int .i64 wh, .slice rq rn rc, .int .i64 er] := rr7
        have r71 : RowV 36 w7 g1 [.slice q5 n5 c5, .int .i64 wh, .slice gq gn gc, .int .i64 er] := r6.block (gr7.block _ r6.lt (fun e => hne (by simpa using e)))
        have hb6 : Below v1.heap.size v1 w6 := low_step hb5.out gr6 (by have := hz5.out; omega)
        have hb7 : Below v1.heap.size v1 w7 := low_step hb6 gr7 (by have := hz5.out; omega)
        go_frame
        refine held_skip (i := 8) (dst := none) rfl rfl (by kernel_rfl) rfl (run_store_op (x := .tmp 9) (y := .tmp 41) rfl rfl rfl st6) hb6 ?_
        go_frame
        refine held_skip (i := 9) (dst := none) rfl rfl (by kernel_rfl) rfl (run_store_op (x := .tmp 10) (y := .tmp 44) rfl rfl rfl st7) hb7 ?_
        go_frame
        refine wpAnyH_done (by kernel_rfl) ?_ _
        clear st6 st7 rr6 rr7
        have hb7' := Lib.hid hb7
        have r71' := Lib.hid r71
        have r72' := Lib.hid r72
        have p1 := r71.cell 3
        have p2 := r72.cell 3
        have p3 := r71.cell 1
        have p4 := r72.cell 1
        have p5 := r71.cell 0
        have p6 := r72.cell 0
        simp only [List.getElem?_cons_zero, List.getElem?_cons_succ] at p1 p2 p3 p4 p5 p6
        have hlA : Hid (∀ j x, ([.slice q5 n5 c5] : List Value)[j]? = some x → w7.cell? ((⟨g1, 0, none⟩ : Addr).add j) = some x) := fun j x hj => r71'.out.boxed.part (o := 0) (ys := [.slice q5 n5 c5]) (fun j v hj => by match j, hj with | 0, h => exact h | j + 1, h => simp at h) j x hj
        have hlB : Hid (∀ j x, ([.slice q6 n6 c6] : List Value)[j]? = some x → w7.cell? ((⟨g2, 0, none⟩ : Addr).add j) = some x) := fun j x hj => r72'.out.boxed.part (o := 0) (ys := [.slice q6 n6 c6]) (fun j v hj => by match j, hj with | 0, h => exact h | j + 1, h => simp at h) j x hj
        have sA := sizeLks (.slice q5 n5 c5)
        have sB := sizeLks (.slice q6 n6 c6)
        have hsame := Lib.hid (rsame_any q5 n5 c5 V5 q6 n6 c6 V6 L' w7 ((k5.box r1 gr6).box r62 gr7) ((k6.box r1 gr6).box r62 gr7))
        clear hb6 hb7 r6 r62 r72 r71 gr6 gr7 r1 r2' hk k5 k6 on1 on2 sT1 sT2
        go_wp2_with (first
          | (go_at_call 15
             refine hsame.out.mono ?_
             rintro e w8 ⟨rfl, hb8⟩
             have hfin := Lib.hid (below_step (below_step hb8 hb7'.out) hvv.out)
             clear hb8 hsame))
        go_ret
        exact ⟨rfl, hfin.out⟩
end Go.Proofs.YtbgpppbcffpdbaaGreatDoor

/-! LocksMost: for every number and both answers the law returns true. No other condition. -/
namespace Go.Proofs.YtbgpppbcffpdbaaGreatDoor
open Go.ChangeShapes Go.WideShapes Go.ChangeAt Go.RowKit Go.Deep Go.Joins

set_option maxRecDepth 1000000 in
theorem mostlaw_lifted (os : Os) (started : os.Started) (H : Type) (enc : TypeId × Value → H) :
    ReturnsInHanded {} Tryz.checked os 5 .any (fun w args => (Rows.locksMostSpec.pre enc Tryz.prog Tryz.f5 [] false w args ∧ laidMetH Tryz.prog [("bursary/mode.goes", Rows.laid_bursary_mode_goes), ("bursary/mode.covers", Rows.laid_bursary_mode_covers)] w) ∧ sizedMet enc Tryz.prog Tryz.f5 (OpenSpec.ofChange Rows.locksMostSpec) false w args)
      (Rows.locksMostSpec.post enc Tryz.prog Tryz.f5 false true false false) := by
  refine returnsInHanded_of_change_and (C := Tryz.checked) (X := fun w _ => laidMetH Tryz.prog [("bursary/mode.goes", Rows.laid_bursary_mode_goes), ("bursary/mode.covers", Rows.laid_bursary_mode_covers)] w) (fun _ _ _ hh h => h.of_heap hh) own started (by kernel_rfl) Tryz.func5
    (ChangeSpec.witness_shaped (enc := enc) (C := Tryz.checked) (os := os) (X := fun w _ => laidMetH Tryz.prog [("bursary/mode.goes", Rows.laid_bursary_mode_goes), ("bursary/mode.covers", Rows.laid_bursary_mode_covers)] w) false (World.doorLaid Tryz.prog 400 os) #[.int .i64 0, .bool false] 8 rfl (World.shaped_of_RefB (by kernel_rfl) (by kernel_rfl)) (by kernel_rfl) (by kernel_rfl) (by kernel_rfl) (door_met os _)) ?_
  intro W base args ds gs before hval0 hW _ _ hL _
  have hval : ∀ (j : Nat) t v, Tryz.f5.params[j]? = some t → args[j]? = some v → Value.okWide Tryz.prog W .any base t v := hval0
  have hW' := hW
  obtain ⟨p, q, hA0, hV, rfl, _, _⟩ := hW
  have hA : DataW.TrodAll enc Tryz.prog W 0 (fun _ => true) true Tryz.f5.params.toList args.toList ds p := hA0
  rw [Tryz.params5] at hA hval
  obtain ⟨v0, v1, d0, d1, q0, q1, rfl, rfl, rfl, h0, h1⟩ := trodAll_two hA
  obtain ⟨rfl, rfl⟩ := trodVars_none hV
  have hT := of_laid hL
  obtain ⟨k0, rfl⟩ := okWide_int Tryz.underlying3 (hval 0 3 v0 rfl rfl)
  obtain ⟨k1, rfl⟩ := okWide_bool Tryz.underlying4 (hval 1 4 v1 rfl rfl)
  refine (mostlaw_any k0 k1 W hT).mono fun e W' ⟨he, hb⟩ => ?_
  subst he
  exact ⟨_, rfl, law_post laidOut (of_decide_eq_true (by kernel_rfl)) rfl (by kernel_rfl) Tryz.underlying4 hW' ⟨rfl, rfl, rfl⟩ hb⟩

set_option maxRecDepth 1000000 in
theorem mostlaw_said : Rows.LocksMostSaid :=
  OpenClaim.holds_of_wide 5 Tryz.f5 rfl rfl rfl rfl rfl rfl rfl ⟨rfl, rfl, rfl, rfl, rfl⟩ rfl rfl rfl rfl rfl (by kernel_rfl) Tryz.func5 (by kernel_rfl)
    (of_decide_eq_true (by kernel_rfl)) (by unfold Func.isWrapper; first | (rw [if_pos (by decide +kernel)]; kernel_rfl) | (rw [if_neg (by decide +kernel)]; exact ⟨rfl, rfl⟩))
    (fun os started H enc _ => mostlaw_lifted os started H enc)

set_option maxRecDepth 1000000 in
theorem mostlaw_holds : Rows.LocksMostCardSaid :=
  Claim7.holds_tied_plain_at .later [] [.wider, .wider] true Rows.locksMostCard.stood.harness false
    mostlaw_said (fun _ h => by cases h) (by kernel_rfl) (fun _ h => by cases h) locksMost_row_tie rfl ⟨rfl, rfl⟩ (by kernel_rfl) rfl
    (fun f fn hf hfn => by
      obtain rfl : f = 5 := Option.some.inj ((show Tryz.prog.funcNamed "bursary/bursarylaw08.LocksMost" = some 5 by kernel_rfl).symm.trans hf) |>.symm
      obtain rfl : fn = Tryz.f5 := (Option.some.inj (Tryz.func5.symm.trans hfn)).symm
      exact ⟨by kernel_rfl, fun j t ht => by
        rw [Tryz.params5] at ht
        have hm : t ∈ [3, 4] := by simpa using Array.mem_of_getElem? ht
        have hall : ([3, 4].all fun u => !Tryz.prog.wantsStandIn u) = true := by kernel_rfl
        exact (show Tryz.prog.wantsStandIn t = false by simpa using List.all_eq_true.1 hall t hm)⟩)
    (by kernel_rfl)

end Go.Proofs.YtbgpppbcffpdbaaGreatDoor
