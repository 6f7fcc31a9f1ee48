/- Ask of locks. -/
import Derived.Test.YtbgpppbcffpdbaaGreatDoorLLe
import Derived.Test.YtbgpppbcffpdbaaGreatDoorLMa
import Derived.Test.YtbgpppbcffpdbaaGreatDoorLWn
import Derived.Test.YtbgpppbcffpdbaaGreatDoorLMd
namespace Go.Proofs.YtbgpppbcffpdbaaGreatDoor
open Go.RowKit

/-- what comes of a question that may be asked -/
def askF (L : List QueD) (x : Int) (r : ResD) (m : Int) : List QueD × Int × Int :=
  if (wantE (qOf L r).hs x m).2 = true then (L, 1, 0)
  else if thereQ L r = false ∧ L.length = 500 then ([], 0, 6)
  else if goesW (qOf L r).hs (wantE (qOf L r).hs x m).1 = true ∧ (convB (wantE (qOf L r).hs x m).1 = true ∨ (qOf L r).ws.length = 0) then (chgL L r (graD (wantE (qOf L r).hs x m).1), 2, 0)
  else (chgL L r (linD (wantE (qOf L r).hs x m).1), 3, 0)
def AskR (L : List QueD) (x : Int) (r : ResD) (m : Int) (L' : List QueD) (a e : Int) : Prop := (AskE L x r m e ∧ e ≠ 0 ∧ L' = [] ∧ a = 0) ∨ (AskE L x r m 0 ∧ askF L x r m = (L', a, e))
def AsPost (L : List QueD) (a er : Int) (w : World) (e : Ending) (w' : World) : Prop := ∃ q' n' c' V', e = .returned (.tuple #[.agg #[.slice q' n' c'], .int .i64 a, .int .i64 er]) ∧ LkP w' w.heap.size q' n' c' V' L ∧ Below w.heap.size w w'
theorem AskE.chk {L : List QueD} {x : Int} {r : ResD} {m : Int} (h : AskE L x r m 0) : ChkOk L ∧ txnB x = true ∧ resB r = true ∧ modB r.k m = true ∧ NoW L x L.length := by
  rcases h with ⟨_, h⟩ | ⟨h1, h2⟩
  · exact absurd rfl h
  · rcases h2 with ⟨_, h⟩ | ⟨_, _, h⟩ | ⟨h3, h4, ⟨_, h⟩ | ⟨h5, _⟩⟩
    · cases h
    · cases h
    · cases h
    · exact ⟨h1.chk.1, h1.chk.2, h3, h4, h5⟩
theorem ChkOk.ords {L : List QueD} (h : ChkOk L) : ∀ d ∈ L, OrdW d.ws := fun d hd => (h.fit d hd).ws.ord

set_option maxRecDepth 100000 in
set_option maxHeartbeats 4000000 in
theorem ask_err (q : Option Addr) (n c : Nat) (V : List QV) (L : List QueD) (x t : Int) (k : Bool) (id m : Int) (L' : List QueD) (a er : Int) (he : AskE L x ⟨t, k, id⟩ m er ∧ er ≠ 0 ∧ L' = [] ∧ a = 0) (w : World) (hL : Lay w) (h : LkOn w q n c V L) (hsm : Sm L) (hn : n ≤ 900000) :
    Calls Tryz.prog 30 #[.agg #[.slice q n c], .int .i64 x, .agg #[.int .i64 t, .bool k, .int .u16 id], .int .i64 m] w (AsPost L' a er w) := by
  obtain ⟨W0, hW0⟩ : ∃ W, w.alloc (.cells #[.slice q n c] 24) = W := ⟨_, rfl⟩
  have hb0 := Lib.hid (one_box (xs := [.slice q n c]) hW0)
  obtain ⟨W1, hW1⟩ : ∃ W, W0.alloc (.cells #[.int .i64 t, .bool k, .int .u16 id] 30) = W := ⟨_, rfl⟩
  have hb1 := Lib.hid (one_box (xs := [.int .i64 t, .bool k, .int .u16 id]) hW1)
  obtain ⟨W, hW⟩ : ∃ W, W1.alloc (.cells #[.slice none 0 0] 24) = W := ⟨_, rfl⟩
  have hb2 := Lib.hid (one_box (xs := [.slice none 0 0]) hW)
  have hr2 : Hid (RowV 24 W W1.heap.size [.slice none 0 0]) := RowV.made' (cs := [.slice none 0 0]) hW
  have hs0 : Hid (W0.heap.size = w.heap.size + 1) := hb0.out.2.2
  have hs1 : Hid (W1.heap.size = w.heap.size + 2) := by show _ = _; have h1 := hb1.out.2.2; have h2 := hs0.out; omega
  have hs2 : Hid (W.heap.size = w.heap.size + 3) := by show _ = _; have h1 := hb2.out.2.2; have h2 := hs1.out; omega
  have hb12 := Lib.hid (below_step hb2.out.1 hb1.out.1)
  have hbW := Lib.hid (below_step hb12.out hb0.out.1)
  have x0 := Lib.hid (hb0.out.2.1.below hb12.out (Nat.le_refl _))
  have x1 := Lib.hid (hb1.out.2.1.below hb2.out.1 (Nat.le_refl _))
  have hh := Lib.hid (h.below hbW.out (Nat.le_refl _))
  have hl := Lib.hid h.len
  have s1 := sizeLks (.slice q n c)
  have s3 := sizeRes (.int .i64 t) (.bool k) (.int .u16 id)
  have sz := sizeLks (.slice none 0 0)
  have honez : ∀ y ∈ ([.slice none 0 0] : List Value), y.oneCell' = true := fun y hy => by obtain rfl := List.mem_singleton.1 hy; rfl
  have hLW : Hid (Lay W) := ⟨hL.goes hbW.out, hL.cov hbW.out⟩
  have hsm' := Lib.hid hsm
  have hn' := Lib.hid hn
  clear h hsm hL hn
  obtain ⟨h1, h2, rfl, rfl⟩ := he
  have hc := Lib.hid (mayAsk_any q n c V L x t k id m er h1 W hLW.out hh.out hsm'.out (by have := hn'.out; omega))
  have h2' : (er == 0) = false := by simpa using h2
  clear h1
  go_enter Tryz.func30, Tryz.ntmps30
  go_wp2_with (first
    | (with_reducible refine wpList_load_at rfl 24 (.tmp 4) rfl Tryz.underlying24 rfl s1 rfl x0.out.all ?_)
    | (with_reducible refine wpList_load_at rfl 30 (.tmp 6) rfl Tryz.underlying30 rfl s3 rfl x1.out.all ?_)
    | (go_at_call 63; refine hc.out.mono ?_; rintro e5 w2 ⟨rfl, hb2⟩; have hb3 := Lib.hid (below_step hb2 hbW.out); have r2 := Lib.hid (hr2.out.below hb2); clear hb2 hW hW0 hW1)
    | ((with_reducible refine wpList_store_at rfl 24 (.tmp 8) (.tmp 23) rfl (o := 0) (vs := [.slice none 0 0]) rfl rfl r2.out sz (Nat.le_refl _) honez ?_)
       intro w9 h9 hg9
       have q9 : Hid (RowV 24 w9 W1.heap.size [.slice none 0 0]) := h9
       have hg9' := Lib.hid hg9
       clear h9 hg9))
  have m0 := q9.out.cell 0
  simp only [List.getElem?_cons_zero] at m0
  have hfin : Below w.heap.size w w9 := low_step hb3.out hg9'.out (by have := hs1.out; omega)
  exact bodyPost_ret (v := .tuple #[.agg #[.slice none 0 0], .int .i64 0, .int .i64 er]) (by simp [results, Tryz.results30, go_sem, m0]) rfl ⟨none, 0, 0, [], rfl, lkp_nil _ _, hfin⟩

set_option maxRecDepth 100000 in
set_option maxHeartbeats 4000000 in
theorem ask_had (q : Option Addr) (n c : Nat) (V : List QV) (L : List QueD) (x t : Int) (k : Bool) (id m : Int) (L' : List QueD) (a er : Int) (h1 : AskE L x ⟨t, k, id⟩ m 0) (hd1 : (wantE (qOf L ⟨t, k, id⟩).hs x m).2 = true) (he : (L, (1 : Int), (0 : Int)) = (L', a, er)) (w : World) (hL : Lay w) (h : LkOn w q n c V L) (hsm : Sm L) (hn : n ≤ 900000) (g0 : 0 ≤ id) (g1 : id < 65536) :
    Calls Tryz.prog 30 #[.agg #[.slice q n c], .int .i64 x, .agg #[.int .i64 t, .bool k, .int .u16 id], .int .i64 m] w (AsPost L' a er w) := by
  obtain ⟨W0, hW0⟩ : ∃ W, w.alloc (.cells #[.slice q n c] 24) = W := ⟨_, rfl⟩
  have hb0 := Lib.hid (one_box (xs := [.slice q n c]) hW0)
  obtain ⟨W1, hW1⟩ : ∃ W, W0.alloc (.cells #[.int .i64 t, .bool k, .int .u16 id] 30) = W := ⟨_, rfl⟩
  have hb1 := Lib.hid (one_box (xs := [.int .i64 t, .bool k, .int .u16 id]) hW1)
  obtain ⟨W, hW⟩ : ∃ W, W1.alloc (.cells #[.slice none 0 0] 24) = W := ⟨_, rfl⟩
  have hb2 := Lib.hid (one_box (xs := [.slice none 0 0]) hW)
  have hr2 : Hid (RowV 24 W W1.heap.size [.slice none 0 0]) := RowV.made' (cs := [.slice none 0 0]) hW
  have hs0 : Hid (W0.heap.size = w.heap.size + 1) := hb0.out.2.2
  have hs1 : Hid (W1.heap.size = w.heap.size + 2) := by show _ = _; have h1 := hb1.out.2.2; have h2 := hs0.out; omega
  have hs2 : Hid (W.heap.size = w.heap.size + 3) := by show _ = _; have h1 := hb2.out.2.2; have h2 := hs1.out; omega
  have hb12 := Lib.hid (below_step hb2.out.1 hb1.out.1)
  have hbW := Lib.hid (below_step hb12.out hb0.out.1)
  have x0 := Lib.hid (hb0.out.2.1.below hb12.out (Nat.le_refl _))
  have x1 := Lib.hid (hb1.out.2.1.below hb2.out.1 (Nat.le_refl _))
  have hh := Lib.hid (h.below hbW.out (Nat.le_refl _))
  have hl := Lib.hid h.len
  have s1 := sizeLks (.slice q n c)
  have s3 := sizeRes (.int .i64 t) (.bool k) (.int .u16 id)
  have sz := sizeLks (.slice none 0 0)
  have honez : ∀ y ∈ ([.slice none 0 0] : List Value), y.oneCell' = true := fun y hy => by obtain rfl := List.mem_singleton.1 hy; rfl
  have hLW : Hid (Lay W) := ⟨hL.goes hbW.out, hL.cov hbW.out⟩
  have hsm' := Lib.hid hsm
  have hn' := Lib.hid hn
  clear h hsm hL hn
  cases he
  obtain ⟨T, hT⟩ : ∃ T, thereQ L ⟨t, k, id⟩ = T := ⟨_, rfl⟩
  have hck := Lib.hid h1.chk.1
  have hc := Lib.hid (mayAsk_any q n c V L x t k id m 0 h1 W hLW.out hh.out hsm'.out (by have := hn'.out; omega))
  have hq := Lib.hid (fun u (hu : Below W.heap.size W u) => queueOf_any q n c V L t k id u (hh.out.below hu (Nat.le_refl _)) hck.out.sort (by have := hn'.out; omega) g0 g1)
  have hqs := Lib.hid (qOf_small hsm'.out ⟨t, k, id⟩)
  have hqr := Lib.hid (qOf_sort hck.out.sorts ⟨t, k, id⟩)
  obtain ⟨⟨⟨zx, zm, zh⟩, bb⟩, hz⟩ : ∃ z, wantE (qOf L ⟨t, k, id⟩).hs x m = z := ⟨_, rfl⟩
  rw [hz] at hd1
  obtain rfl : bb = true := hd1
  clear h1
  go_enter Tryz.func30, Tryz.ntmps30
  go_wp2_with (first
    | (with_reducible refine wpList_load_at rfl 24 (.tmp 4) rfl Tryz.underlying24 rfl s1 rfl x0d.out.all ?_)
    | (with_reducible refine wpList_load_at rfl 24 (.tmp 4) rfl Tryz.underlying24 rfl s1 rfl x0c.out.all ?_)
    | (with_reducible refine wpList_load_at rfl 24 (.tmp 4) rfl Tryz.underlying24 rfl s1 rfl x0b.out.all ?_)
    | (with_reducible refine wpList_load_at rfl 24 (.tmp 4) rfl Tryz.underlying24 rfl s1 rfl x0.out.all ?_)
    | (with_reducible refine wpList_load_at rfl 30 (.tmp 6) rfl Tryz.underlying30 rfl s3 rfl x1d.out.all ?_)
    | (with_reducible refine wpList_load_at rfl 30 (.tmp 6) rfl Tryz.underlying30 rfl s3 rfl x1b.out.all ?_)
    | (with_reducible refine wpList_load_at rfl 30 (.tmp 6) rfl Tryz.underlying30 rfl s3 rfl x1.out.all ?_)
    | (go_at_call 63; refine hc.out.mono ?_; rintro e5 w2 ⟨rfl, hb2⟩; have hb3 := Lib.hid hb2; have x0b := Lib.hid (x0.out.below hb2 (Nat.le_refl _)); have x1b := Lib.hid (x1.out.below hb2 (Nat.le_refl _)); clear hb2 hW hW0 hW1)
    | (go_at_call 53
       refine (hq.out _ hb3.out).mono ?_
       rintro e7 w5 ⟨⟨⟨va, vb, vc⟩, vq, vn, vm, uq, un, um⟩, rfl, hv, hb6⟩
       rw [hT]
       have hb7 := Lib.hid (below_step hb6 hb3.out)
       obtain ⟨w6, hw6⟩ : ∃ w6, w5.alloc (.cells #[.int .i64 va, .bool vb, .int .u16 vc, .slice vq vn vm, .slice uq un um] 43) = w6 := ⟨_, rfl⟩
       have hb8 := Lib.hid (one_box (xs := [.int .i64 va, .bool vb, .int .u16 vc, .slice vq vn vm, .slice uq un um]) hw6)
       have hv6 := Lib.hid (hv.below hb8.out.1 (Nat.le_refl _))
       have s5 := sizeQue (.int .i64 va) (.bool vb) (.int .u16 vc) (.slice vq vn vm) (.slice uq un um)
       have hvn : Hid (vn ≤ 1000000) := by show _ ≤ _; have h1 : (qOf L ⟨t, k, id⟩).hs.length = vn := hv.hs.len; have h2 := hqs.out.1; omega
       have hun : Hid (un = (qOf L ⟨t, k, id⟩).ws.length) := by show _ = _; have h1 : (qOf L ⟨t, k, id⟩).ws.length = un := hv.ws.len; exact h1.symm
       have hb9 := Lib.hid (below_step hb8.out.1 hb7.out)
       have hwn := Lib.hid (wanting_any va vb vc vq vn vm uq un um _ x m ⟨zx, zm, zh⟩ true hz w6 ⟨hLW.out.goes hb9.out, hLW.out.cov hb9.out⟩ hv6.out.hs hqr.out hvn.out)
       clear hb6 hv
       simp only [QV.val_eq])
    | (with_reducible refine wpList_load_at rfl 43 (.tmp 12) rfl Tryz.underlying43 rfl s5 rfl hb8d.out.all ?_)
    | (with_reducible refine wpList_load_at rfl 43 (.tmp 12) rfl Tryz.underlying43 rfl s5 rfl hb8.out.2.1.all ?_)
    | (go_at_call 64
       refine hwn.out.mono ?_
       rintro e8 w7 ⟨rfl, hb10⟩
       obtain ⟨w8, hw8⟩ : ∃ w8, w7.alloc (.cells #[.int .i64 zx, .int .i64 zm, .int .i64 zh] 47) = w8 := ⟨_, rfl⟩
       have hb11 := Lib.hid (one_box (xs := [.int .i64 zx, .int .i64 zm, .int .i64 zh]) hw8)
       have hb12' := Lib.hid (below_step hb11.out.1 hb10)
       have hb13 := Lib.hid (below_step hb12'.out hb9.out)
       have hb8d := Lib.hid (hb8.out.2.1.below hb12'.out (Nat.le_refl _))
       have x0c := Lib.hid (x0.out.below hb13.out (Nat.le_refl _))
       have x1d := Lib.hid (x1.out.below hb13.out (Nat.le_refl _))
       have r8 := Lib.hid (hr2.out.below hb13.out)
       have s4 := sizeWait (.int .i64 zx) (.int .i64 zm) (.int .i64 zh)
       have hhs := Lib.hid (hv6.out.hs.below hb12'.out (Nat.le_refl _))
       have hcl := Lib.hid (cloned_any q n c V L w8 (hh.out.below hb13.out (Nat.le_refl _)) hsm'.out (by have := hn'.out; omega))
       clear hb10 hw6)
    | (go_at_call 65
       refine hcl.out.mono ?_
       rintro e9 w10 ⟨q', n', c', V', rfl, k1, k2⟩
       have hk1 := Lib.hid k1
       have hk2 := Lib.hid k2
       have r10 := Lib.hid (r8.out.below k2)
       have t6 := sizeLks (.slice q' n' c')
       have hone6 : ∀ y ∈ ([.slice q' n' c'] : List Value), y.oneCell' = true := fun y hy => by obtain rfl := List.mem_singleton.1 hy; rfl
       clear k1 k2)
    | ((with_reducible refine wpList_store_at rfl 24 (.tmp 8) (.tmp 40) rfl (o := 0) (vs := [.slice q' n' c']) rfl rfl r10.out t6 (Nat.le_refl _) hone6 ?_)
       intro w9 h9 hg9
       have q9 : Hid (RowV 24 w9 W1.heap.size [.slice q' n' c']) := h9
       have hg9' := Lib.hid hg9
       clear h9 hg9))
  have m0 := q9.out.cell 0
  simp only [List.getElem?_cons_zero] at m0
  have hfin : Below w.heap.size w w9 := low_step (below_step hk2.out (below_step hb13.out hbW.out)) hg9'.out (by have := hs1.out; omega)
  have hz1 := hb13.out.size
  exact bodyPost_ret (v := .tuple #[.agg #[.slice q' n' c'], .int .i64 1, .int .i64 0]) (by simp [results, Tryz.results30, go_sem, m0]) rfl ⟨q', n', c', V', rfl, (hk1.out.lp.gr hg9'.out (by have := hs1.out; have := hs2.out; omega)).mono (by have := hs2.out; omega), hfin⟩

set_option maxRecDepth 100000 in
set_option maxHeartbeats 4000000 in
theorem ask_full (q : Option Addr) (n c : Nat) (V : List QV) (L : List QueD) (x t : Int) (k : Bool) (id m : Int) (L' : List QueD) (a er : Int) (h1 : AskE L x ⟨t, k, id⟩ m 0) (hd1 : (wantE (qOf L ⟨t, k, id⟩).hs x m).2 = false) (hT : thereQ L ⟨t, k, id⟩ = false) (hfl : L.length = 500) (he : (([] : List QueD), (0 : Int), (6 : Int)) = (L', a, er)) (w : World) (hL : Lay w) (h : LkOn w q n c V L) (hsm : Sm L) (hn : n ≤ 900000) (g0 : 0 ≤ id) (g1 : id < 65536) :
    Calls Tryz.prog 30 #[.agg #[.slice q n c], .int .i64 x, .agg #[.int .i64 t, .bool k, .int .u16 id], .int .i64 m] w (AsPost L' a er w) := by
  obtain ⟨W0, hW0⟩ : ∃ W, w.alloc (.cells #[.slice q n c] 24) = W := ⟨_, rfl⟩
  have hb0 := Lib.hid (one_box (xs := [.slice q n c]) hW0)
  obtain ⟨W1, hW1⟩ : ∃ W, W0.alloc (.cells #[.int .i64 t, .bool k, .int .u16 id] 30) = W := ⟨_, rfl⟩
  have hb1 := Lib.hid (one_box (xs := [.int .i64 t, .bool k, .int .u16 id]) hW1)
  obtain ⟨W, hW⟩ : ∃ W, W1.alloc (.cells #[.slice none 0 0] 24) = W := ⟨_, rfl⟩
  have hb2 := Lib.hid (one_box (xs := [.slice none 0 0]) hW)
  have hr2 : Hid (RowV 24 W W1.heap.size [.slice none 0 0]) := RowV.made' (cs := [.slice none 0 0]) hW
  have hs0 : Hid (W0.heap.size = w.heap.size + 1) := hb0.out.2.2
  have hs1 : Hid (W1.heap.size = w.heap.size + 2) := by show _ = _; have h1 := hb1.out.2.2; have h2 := hs0.out; omega
  have hs2 : Hid (W.heap.size = w.heap.size + 3) := by show _ = _; have h1 := hb2.out.2.2; have h2 := hs1.out; omega
  have hb12 := Lib.hid (below_step hb2.out.1 hb1.out.1)
  have hbW := Lib.hid (below_step hb12.out hb0.out.1)
  have x0 := Lib.hid (hb0.out.2.1.below hb12.out (Nat.le_refl _))
  have x1 := Lib.hid (hb1.out.2.1.below hb2.out.1 (Nat.le_refl _))
  have hh := Lib.hid (h.below hbW.out (Nat.le_refl _))
  have hl := Lib.hid h.len
  have s1 := sizeLks (.slice q n c)
  have s3 := sizeRes (.int .i64 t) (.bool k) (.int .u16 id)
  have sz := sizeLks (.slice none 0 0)
  have honez : ∀ y ∈ ([.slice none 0 0] : List Value), y.oneCell' = true := fun y hy => by obtain rfl := List.mem_singleton.1 hy; rfl
  have hLW : Hid (Lay W) := ⟨hL.goes hbW.out, hL.cov hbW.out⟩
  have hsm' := Lib.hid hsm
  have hn' := Lib.hid hn
  clear h hsm hL hn
  cases he
  have hfl' : ((n : Int) == 500) = true := by have := hl.out; simp; omega
  have hck := Lib.hid h1.chk.1
  have hc := Lib.hid (mayAsk_any q n c V L x t k id m 0 h1 W hLW.out hh.out hsm'.out (by have := hn'.out; omega))
  have hq := Lib.hid (fun u (hu : Below W.heap.size W u) => queueOf_any q n c V L t k id u (hh.out.below hu (Nat.le_refl _)) hck.out.sort (by have := hn'.out; omega) g0 g1)
  have hqs := Lib.hid (qOf_small hsm'.out ⟨t, k, id⟩)
  have hqr := Lib.hid (qOf_sort hck.out.sorts ⟨t, k, id⟩)
  obtain ⟨⟨⟨zx, zm, zh⟩, bb⟩, hz⟩ : ∃ z, wantE (qOf L ⟨t, k, id⟩).hs x m = z := ⟨_, rfl⟩
  rw [hz] at hd1
  obtain rfl : bb = false := hd1
  clear h1
  go_enter Tryz.func30, Tryz.ntmps30
  go_wp2_with (first
    | (with_reducible refine wpList_load_at rfl 24 (.tmp 4) rfl Tryz.underlying24 rfl s1 rfl x0d.out.all ?_)
    | (with_reducible refine wpList_load_at rfl 24 (.tmp 4) rfl Tryz.underlying24 rfl s1 rfl x0c.out.all ?_)
    | (with_reducible refine wpList_load_at rfl 24 (.tmp 4) rfl Tryz.underlying24 rfl s1 rfl x0b.out.all ?_)
    | (with_reducible refine wpList_load_at rfl 24 (.tmp 4) rfl Tryz.underlying24 rfl s1 rfl x0.out.all ?_)
    | (with_reducible refine wpList_load_at rfl 30 (.tmp 6) rfl Tryz.underlying30 rfl s3 rfl x1d.out.all ?_)
    | (with_reducible refine wpList_load_at rfl 30 (.tmp 6) rfl Tryz.underlying30 rfl s3 rfl x1b.out.all ?_)
    | (with_reducible refine wpList_load_at rfl 30 (.tmp 6) rfl Tryz.underlying30 rfl s3 rfl x1.out.all ?_)
    | (go_at_call 63; refine hc.out.mono ?_; rintro e5 w2 ⟨rfl, hb2⟩; have hb3 := Lib.hid hb2; have x0b := Lib.hid (x0.out.below hb2 (Nat.le_refl _)); have x1b := Lib.hid (x1.out.below hb2 (Nat.le_refl _)); clear hb2 hW hW0 hW1)
    | (go_at_call 53
       refine (hq.out _ hb3.out).mono ?_
       rintro e7 w5 ⟨⟨⟨va, vb, vc⟩, vq, vn, vm, uq, un, um⟩, rfl, hv, hb6⟩
       rw [hT]
       have hb7 := Lib.hid (below_step hb6 hb3.out)
       obtain ⟨w6, hw6⟩ : ∃ w6, w5.alloc (.cells #[.int .i64 va, .bool vb, .int .u16 vc, .slice vq vn vm, .slice uq un um] 43) = w6 := ⟨_, rfl⟩
       have hb8 := Lib.hid (one_box (xs := [.int .i64 va, .bool vb, .int .u16 vc, .slice vq vn vm, .slice uq un um]) hw6)
       have hv6 := Lib.hid (hv.below hb8.out.1 (Nat.le_refl _))
       have s5 := sizeQue (.int .i64 va) (.bool vb) (.int .u16 vc) (.slice vq vn vm) (.slice uq un um)
       have hvn : Hid (vn ≤ 1000000) := by show _ ≤ _; have h1 : (qOf L ⟨t, k, id⟩).hs.length = vn := hv.hs.len; have h2 := hqs.out.1; omega
       have hun : Hid (un = (qOf L ⟨t, k, id⟩).ws.length) := by show _ = _; have h1 : (qOf L ⟨t, k, id⟩).ws.length = un := hv.ws.len; exact h1.symm
       have hb9 := Lib.hid (below_step hb8.out.1 hb7.out)
       have hwn := Lib.hid (wanting_any va vb vc vq vn vm uq un um _ x m ⟨zx, zm, zh⟩ false hz w6 ⟨hLW.out.goes hb9.out, hLW.out.cov hb9.out⟩ hv6.out.hs hqr.out hvn.out)
       clear hb6 hv
       simp only [QV.val_eq])
    | (with_reducible refine wpList_load_at rfl 43 (.tmp 12) rfl Tryz.underlying43 rfl s5 rfl hb8d.out.all ?_)
    | (with_reducible refine wpList_load_at rfl 43 (.tmp 12) rfl Tryz.underlying43 rfl s5 rfl hb8.out.2.1.all ?_)
    | (go_at_call 64
       refine hwn.out.mono ?_
       rintro e8 w7 ⟨rfl, hb10⟩
       obtain ⟨w8, hw8⟩ : ∃ w8, w7.alloc (.cells #[.int .i64 zx, .int .i64 zm, .int .i64 zh] 47) = w8 := ⟨_, rfl⟩
       have hb11 := Lib.hid (one_box (xs := [.int .i64 zx, .int .i64 zm, .int .i64 zh]) hw8)
       have hb12' := Lib.hid (below_step hb11.out.1 hb10)
       have hb13 := Lib.hid (below_step hb12'.out hb9.out)
       have hb8d := Lib.hid (hb8.out.2.1.below hb12'.out (Nat.le_refl _))
       have x0c := Lib.hid (x0.out.below hb13.out (Nat.le_refl _))
       have x1d := Lib.hid (x1.out.below hb13.out (Nat.le_refl _))
       have r8 := Lib.hid (hr2.out.below hb13.out)
       have s4 := sizeWait (.int .i64 zx) (.int .i64 zm) (.int .i64 zh)
       have hhs := Lib.hid (hv6.out.hs.below hb12'.out (Nat.le_refl _))
       have cl0 := x0c.out.cell 0 rfl
       clear hb10 hw6)
    | ((with_reducible refine wpList_store_at rfl 24 (.tmp 8) (.tmp 49) rfl (o := 0) (vs := [.slice none 0 0]) rfl rfl r8.out sz (Nat.le_refl _) honez ?_)
       intro w9 h9 hg9
       have q9 : Hid (RowV 24 w9 W1.heap.size [.slice none 0 0]) := h9
       have hg9' := Lib.hid hg9
       clear h9 hg9))
  have m0 := q9.out.cell 0
  simp only [List.getElem?_cons_zero] at m0
  have hfin : Below w.heap.size w w9 := low_step (below_step hb13.out hbW.out) hg9'.out (by have := hs1.out; omega)
  exact bodyPost_ret (v := .tuple #[.agg #[.slice none 0 0], .int .i64 0, .int .i64 6]) (by simp [results, Tryz.results30, go_sem, m0]) rfl ⟨none, 0, 0, [], rfl, lkp_nil _ _, hfin⟩

set_option maxRecDepth 100000 in
set_option maxHeartbeats 4000000 in
theorem ask_t000 (q : Option Addr) (n c : Nat) (V : List QV) (L : List QueD) (x t : Int) (k : Bool) (id m : Int) (L' : List QueD) (a er : Int) (h1 : AskE L x ⟨t, k, id⟩ m 0) (hd1 : (wantE (qOf L ⟨t, k, id⟩).hs x m).2 = false) (hT : thereQ L ⟨t, k, id⟩ = true) (hgb : goesW (qOf L ⟨t, k, id⟩).hs (wantE (qOf L ⟨t, k, id⟩).hs x m).1 = false) (he : (chgL L ⟨t, k, id⟩ (linD (wantE (qOf L ⟨t, k, id⟩).hs x m).1), (3 : Int), (0 : Int)) = (L', a, er)) (w : World) (hL : Lay w) (h : LkOn w q n c V L) (hsm : Sm L) (hn : n ≤ 900000) (g0 : 0 ≤ id) (g1 : id < 65536) :
    Calls Tryz.prog 30 #[.agg #[.slice q n c], .int .i64 x, .agg #[.int .i64 t, .bool k, .int .u16 id], .int .i64 m] w (AsPost L' a er w) := by
  obtain ⟨W0, hW0⟩ : ∃ W, w.alloc (.cells #[.slice q n c] 24) = W := ⟨_, rfl⟩
  have hb0 := Lib.hid (one_box (xs := [.slice q n c]) hW0)
  obtain ⟨W1, hW1⟩ : ∃ W, W0.alloc (.cells #[.int .i64 t, .bool k, .int .u16 id] 30) = W := ⟨_, rfl⟩
  have hb1 := Lib.hid (one_box (xs := [.int .i64 t, .bool k, .int .u16 id]) hW1)
  obtain ⟨W, hW⟩ : ∃ W, W1.alloc (.cells #[.slice none 0 0] 24) = W := ⟨_, rfl⟩
  have hb2 := Lib.hid (one_box (xs := [.slice none 0 0]) hW)
  have hr2 : Hid (RowV 24 W W1.heap.size [.slice none 0 0]) := RowV.made' (cs := [.slice none 0 0]) hW
  have hs0 : Hid (W0.heap.size = w.heap.size + 1) := hb0.out.2.2
  have hs1 : Hid (W1.heap.size = w.heap.size + 2) := by show _ = _; have h1 := hb1.out.2.2; have h2 := hs0.out; omega
  have hs2 : Hid (W.heap.size = w.heap.size + 3) := by show _ = _; have h1 := hb2.out.2.2; have h2 := hs1.out; omega
  have hb12 := Lib.hid (below_step hb2.out.1 hb1.out.1)
  have hbW := Lib.hid (below_step hb12.out hb0.out.1)
  have x0 := Lib.hid (hb0.out.2.1.below hb12.out (Nat.le_refl _))
  have x1 := Lib.hid (hb1.out.2.1.below hb2.out.1 (Nat.le_refl _))
  have hh := Lib.hid (h.below hbW.out (Nat.le_refl _))
  have hl := Lib.hid h.len
  have s1 := sizeLks (.slice q n c)
  have s3 := sizeRes (.int .i64 t) (.bool k) (.int .u16 id)
  have sz := sizeLks (.slice none 0 0)
  have honez : ∀ y ∈ ([.slice none 0 0] : List Value), y.oneCell' = true := fun y hy => by obtain rfl := List.mem_singleton.1 hy; rfl
  have hLW : Hid (Lay W) := ⟨hL.goes hbW.out, hL.cov hbW.out⟩
  have hsm' := Lib.hid hsm
  have hn' := Lib.hid hn
  clear h hsm hL hn
  cases he
  have hck := Lib.hid h1.chk.1
  have hc := Lib.hid (mayAsk_any q n c V L x t k id m 0 h1 W hLW.out hh.out hsm'.out (by have := hn'.out; omega))
  have hq := Lib.hid (fun u (hu : Below W.heap.size W u) => queueOf_any q n c V L t k id u (hh.out.below hu (Nat.le_refl _)) hck.out.sort (by have := hn'.out; omega) g0 g1)
  have hqs := Lib.hid (qOf_small hsm'.out ⟨t, k, id⟩)
  have hqr := Lib.hid (qOf_sort hck.out.sorts ⟨t, k, id⟩)
  obtain ⟨⟨⟨zx, zm, zh⟩, bb⟩, hz⟩ : ∃ z, wantE (qOf L ⟨t, k, id⟩).hs x m = z := ⟨_, rfl⟩
  rw [hz] at hd1
  obtain rfl : bb = false := hd1
  rw [hz] at hgb
  simp only at hgb
  rw [hz]
  clear h1
  go_enter Tryz.func30, Tryz.ntmps30
  go_wp2_with (first
    | (with_reducible refine wpList_load_at rfl 24 (.tmp 4) rfl Tryz.underlying24 rfl s1 rfl x0d.out.all ?_)
    | (with_reducible refine wpList_load_at rfl 24 (.tmp 4) rfl Tryz.underlying24 rfl s1 rfl x0c.out.all ?_)
    | (with_reducible refine wpList_load_at rfl 24 (.tmp 4) rfl Tryz.underlying24 rfl s1 rfl x0b.out.all ?_)
    | (with_reducible refine wpList_load_at rfl 24 (.tmp 4) rfl Tryz.underlying24 rfl s1 rfl x0.out.all ?_)
    | (with_reducible refine wpList_load_at rfl 30 (.tmp 6) rfl Tryz.underlying30 rfl s3 rfl x1d.out.all ?_)
    | (with_reducible refine wpList_load_at rfl 30 (.tmp 6) rfl Tryz.underlying30 rfl s3 rfl x1b.out.all ?_)
    | (with_reducible refine wpList_load_at rfl 30 (.tmp 6) rfl Tryz.underlying30 rfl s3 rfl x1.out.all ?_)
    | (go_at_call 63; refine hc.out.mono ?_; rintro e5 w2 ⟨rfl, hb2⟩; have hb3 := Lib.hid hb2; have x0b := Lib.hid (x0.out.below hb2 (Nat.le_refl _)); have x1b := Lib.hid (x1.out.below hb2 (Nat.le_refl _)); clear hb2 hW hW0 hW1)
    | (go_at_call 53
       refine (hq.out _ hb3.out).mono ?_
       rintro e7 w5 ⟨⟨⟨va, vb, vc⟩, vq, vn, vm, uq, un, um⟩, rfl, hv, hb6⟩
       rw [hT]
       have hb7 := Lib.hid (below_step hb6 hb3.out)
       obtain ⟨w6, hw6⟩ : ∃ w6, w5.alloc (.cells #[.int .i64 va, .bool vb, .int .u16 vc, .slice vq vn vm, .slice uq un um] 43) = w6 := ⟨_, rfl⟩
       have hb8 := Lib.hid (one_box (xs := [.int .i64 va, .bool vb, .int .u16 vc, .slice vq vn vm, .slice uq un um]) hw6)
       have hv6 := Lib.hid (hv.below hb8.out.1 (Nat.le_refl _))
       have s5 := sizeQue (.int .i64 va) (.bool vb) (.int .u16 vc) (.slice vq vn vm) (.slice uq un um)
       have hvn : Hid (vn ≤ 1000000) := by show _ ≤ _; have h1 : (qOf L ⟨t, k, id⟩).hs.length = vn := hv.hs.len; have h2 := hqs.out.1; omega
       have hun : Hid (un = (qOf L ⟨t, k, id⟩).ws.length) := by show _ = _; have h1 : (qOf L ⟨t, k, id⟩).ws.length = un := hv.ws.len; exact h1.symm
       have hb9 := Lib.hid (below_step hb8.out.1 hb7.out)
       have hwn := Lib.hid (wanting_any va vb vc vq vn vm uq un um _ x m ⟨zx, zm, zh⟩ false hz w6 ⟨hLW.out.goes hb9.out, hLW.out.cov hb9.out⟩ hv6.out.hs hqr.out hvn.out)
       clear hb6 hv
       simp only [QV.val_eq])
    | (with_reducible refine wpList_load_at rfl 43 (.tmp 12) rfl Tryz.underlying43 rfl s5 rfl hb8d.out.all ?_)
    | (with_reducible refine wpList_load_at rfl 43 (.tmp 12) rfl Tryz.underlying43 rfl s5 rfl hb8.out.2.1.all ?_)
    | (go_at_call 64
       refine hwn.out.mono ?_
       rintro e8 w7 ⟨rfl, hb10⟩
       obtain ⟨w8, hw8⟩ : ∃ w8, w7.alloc (.cells #[.int .i64 zx, .int .i64 zm, .int .i64 zh] 47) = w8 := ⟨_, rfl⟩
       have hb11 := Lib.hid (one_box (xs := [.int .i64 zx, .int .i64 zm, .int .i64 zh]) hw8)
       have hb12' := Lib.hid (below_step hb11.out.1 hb10)
       have hb13 := Lib.hid (below_step hb12'.out hb9.out)
       have hb8d := Lib.hid (hb8.out.2.1.below hb12'.out (Nat.le_refl _))
       have x0c := Lib.hid (x0.out.below hb13.out (Nat.le_refl _))
       have x1d := Lib.hid (x1.out.below hb13.out (Nat.le_refl _))
       have r8 := Lib.hid (hr2.out.below hb13.out)
       have s4 := sizeWait (.int .i64 zx) (.int .i64 zm) (.int .i64 zh)
       have hhs := Lib.hid (hv6.out.hs.below hb12'.out (Nat.le_refl _))
       have hgo := Lib.hid (goes_l_any va vb vc vq vn vm uq un um _ zx zm zh w8 (hLW.out.goes hb13.out) hhs.out hvn.out)
       rw [hgb] at hgo
       clear hb10 hw6)
    | (with_reducible refine wpList_load_at rfl 47 (.tmp 14) rfl Tryz.underlying47 rfl s4 rfl hwb2.out.all ?_)
    | (with_reducible refine wpList_load_at rfl 47 (.tmp 14) rfl Tryz.underlying47 rfl s4 rfl hb11.out.2.1.all ?_)
    | (go_at_call 66; refine hgo.out.mono ?_; rintro e9 w9 ⟨rfl, hb14⟩; have hb15 := Lib.hid hb14; have hwb2 := Lib.hid (hb11.out.2.1.below hb14 (Nat.le_refl _)); have hb16 := Lib.hid (below_step hb14 hb13.out); have x0d := Lib.hid (x0.out.below hb16.out (Nat.le_refl _)); have x1d := Lib.hid (x1.out.below hb16.out (Nat.le_refl _)); have q4 := (hb8d.out.below hb14 (Nat.le_refl _)).cell 4 rfl; have hchg := Lib.hid (changed2_any _ q n c V L t k id (linD ⟨zx, zm, zh⟩) _ (hh.out.below hb16.out (Nat.le_refl _)) hsm'.out hn'.out hck.out.sort g0 g1 (do_ask2 _ L _ zx zm zh _ hwb2.out hsm'.out hck.out.ords)); clear hb14)
    | (go_at_call 68
       refine hchg.out.mono ?_
       rintro e12 w12 ⟨q', n', c', V', rfl, k1, k2⟩
       have hk1 := Lib.hid k1
       have hk2 := Lib.hid k2
       have r12 := Lib.hid (hr2.out.below (below_step k2 hb16.out))
       have t6 := sizeLks (.slice q' n' c')
       have hone6 : ∀ y ∈ ([.slice q' n' c'] : List Value), y.oneCell' = true := fun y hy => by obtain rfl := List.mem_singleton.1 hy; rfl
       clear k1 k2)
    | ((with_reducible refine wpList_store_at rfl 24 (.tmp 8) (.tmp 70) rfl (o := 0) (vs := [.slice q' n' c']) rfl rfl r12.out t6 (Nat.le_refl _) hone6 ?_)
       intro w9 h9 hg9
       have q9 : Hid (RowV 24 w9 W1.heap.size [.slice q' n' c']) := h9
       have hg9' := Lib.hid hg9
       clear h9 hg9))
  have m0 := q9.out.cell 0
  simp only [List.getElem?_cons_zero] at m0
  have hfin : Below w.heap.size w w9 := low_step (below_step hk2.out (below_step hb16.out hbW.out)) hg9'.out (by have := hs1.out; omega)
  have hz1 := hb16.out.size
  exact bodyPost_ret (v := .tuple #[.agg #[.slice q' n' c'], .int .i64 3, .int .i64 0]) (by simp [results, Tryz.results30, go_sem, m0]) rfl ⟨q', n', c', V', rfl, (hk1.out.lp.gr hg9'.out (by have := hs1.out; have := hs2.out; omega)).mono (by have := hs2.out; omega), hfin⟩

set_option maxRecDepth 100000 in
set_option maxHeartbeats 4000000 in
theorem ask_t110 (q : Option Addr) (n c : Nat) (V : List QV) (L : List QueD) (x t : Int) (k : Bool) (id m : Int) (L' : List QueD) (a er : Int) (h1 : AskE L x ⟨t, k, id⟩ m 0) (hd1 : (wantE (qOf L ⟨t, k, id⟩).hs x m).2 = false) (hT : thereQ L ⟨t, k, id⟩ = true) (hgb : goesW (qOf L ⟨t, k, id⟩).hs (wantE (qOf L ⟨t, k, id⟩).hs x m).1 = true) (hcv : convB (wantE (qOf L ⟨t, k, id⟩).hs x m).1 = true) (he : (chgL L ⟨t, k, id⟩ (graD (wantE (qOf L ⟨t, k, id⟩).hs x m).1), (2 : Int), (0 : Int)) = (L', a, er)) (w : World) (hL : Lay w) (h : LkOn w q n c V L) (hsm : Sm L) (hn : n ≤ 900000) (g0 : 0 ≤ id) (g1 : id < 65536) :
    Calls Tryz.prog 30 #[.agg #[.slice q n c], .int .i64 x, .agg #[.int .i64 t, .bool k, .int .u16 id], .int .i64 m] w (AsPost L' a er w) := by
  obtain ⟨W0, hW0⟩ : ∃ W, w.alloc (.cells #[.slice q n c] 24) = W := ⟨_, rfl⟩
  have hb0 := Lib.hid (one_box (xs := [.slice q n c]) hW0)
  obtain ⟨W1, hW1⟩ : ∃ W, W0.alloc (.cells #[.int .i64 t, .bool k, .int .u16 id] 30) = W := ⟨_, rfl⟩
  have hb1 := Lib.hid (one_box (xs := [.int .i64 t, .bool k, .int .u16 id]) hW1)
  obtain ⟨W, hW⟩ : ∃ W, W1.alloc (.cells #[.slice none 0 0] 24) = W := ⟨_, rfl⟩
  have hb2 := Lib.hid (one_box (xs := [.slice none 0 0]) hW)
  have hr2 : Hid (RowV 24 W W1.heap.size [.slice none 0 0]) := RowV.made' (cs := [.slice none 0 0]) hW
  have hs0 : Hid (W0.heap.size = w.heap.size + 1) := hb0.out.2.2
  have hs1 : Hid (W1.heap.size = w.heap.size + 2) := by show _ = _; have h1 := hb1.out.2.2; have h2 := hs0.out; omega
  have hs2 : Hid (W.heap.size = w.heap.size + 3) := by show _ = _; have h1 := hb2.out.2.2; have h2 := hs1.out; omega
  have hb12 := Lib.hid (below_step hb2.out.1 hb1.out.1)
  have hbW := Lib.hid (below_step hb12.out hb0.out.1)
  have x0 := Lib.hid (hb0.out.2.1.below hb12.out (Nat.le_refl _))
  have x1 := Lib.hid (hb1.out.2.1.below hb2.out.1 (Nat.le_refl _))
  have hh := Lib.hid (h.below hbW.out (Nat.le_refl _))
  have hl := Lib.hid h.len
  have s1 := sizeLks (.slice q n c)
  have s3 := sizeRes (.int .i64 t) (.bool k) (.int .u16 id)
  have sz := sizeLks (.slice none 0 0)
  have honez : ∀ y ∈ ([.slice none 0 0] : List Value), y.oneCell' = true := fun y hy => by obtain rfl := List.mem_singleton.1 hy; rfl
  have hLW : Hid (Lay W) := ⟨hL.goes hbW.out, hL.cov hbW.out⟩
  have hsm' := Lib.hid hsm
  have hn' := Lib.hid hn
  clear h hsm hL hn
  cases he
  have hck := Lib.hid h1.chk.1
  have hc := Lib.hid (mayAsk_any q n c V L x t k id m 0 h1 W hLW.out hh.out hsm'.out (by have := hn'.out; omega))
  have hq := Lib.hid (fun u (hu : Below W.heap.size W u) => queueOf_any q n c V L t k id u (hh.out.below hu (Nat.le_refl _)) hck.out.sort (by have := hn'.out; omega) g0 g1)
  have hqs := Lib.hid (qOf_small hsm'.out ⟨t, k, id⟩)
  have hqr := Lib.hid (qOf_sort hck.out.sorts ⟨t, k, id⟩)
  obtain ⟨⟨⟨zx, zm, zh⟩, bb⟩, hz⟩ : ∃ z, wantE (qOf L ⟨t, k, id⟩).hs x m = z := ⟨_, rfl⟩
  rw [hz] at hd1
  obtain rfl : bb = false := hd1
  rw [hz] at hgb hcv
  simp only at hgb hcv
  rw [hz]
  clear h1
  go_enter Tryz.func30, Tryz.ntmps30
  go_wp2_with (first
    | (with_reducible refine wpList_load_at rfl 24 (.tmp 4) rfl Tryz.underlying24 rfl s1 rfl x0d.out.all ?_)
    | (with_reducible refine wpList_load_at rfl 24 (.tmp 4) rfl Tryz.underlying24 rfl s1 rfl x0c.out.all ?_)
    | (with_reducible refine wpList_load_at rfl 24 (.tmp 4) rfl Tryz.underlying24 rfl s1 rfl x0b.out.all ?_)
    | (with_reducible refine wpList_load_at rfl 24 (.tmp 4) rfl Tryz.underlying24 rfl s1 rfl x0.out.all ?_)
    | (with_reducible refine wpList_load_at rfl 30 (.tmp 6) rfl Tryz.underlying30 rfl s3 rfl x1d.out.all ?_)
    | (with_reducible refine wpList_load_at rfl 30 (.tmp 6) rfl Tryz.underlying30 rfl s3 rfl x1b.out.all ?_)
    | (with_reducible refine wpList_load_at rfl 30 (.tmp 6) rfl Tryz.underlying30 rfl s3 rfl x1.out.all ?_)
    | (go_at_call 63; refine hc.out.mono ?_; rintro e5 w2 ⟨rfl, hb2⟩; have hb3 := Lib.hid hb2; have x0b := Lib.hid (x0.out.below hb2 (Nat.le_refl _)); have x1b := Lib.hid (x1.out.below hb2 (Nat.le_refl _)); clear hb2 hW hW0 hW1)
    | (go_at_call 53
       refine (hq.out _ hb3.out).mono ?_
       rintro e7 w5 ⟨⟨⟨va, vb, vc⟩, vq, vn, vm, uq, un, um⟩, rfl, hv, hb6⟩
       rw [hT]
       have hb7 := Lib.hid (below_step hb6 hb3.out)
       obtain ⟨w6, hw6⟩ : ∃ w6, w5.alloc (.cells #[.int .i64 va, .bool vb, .int .u16 vc, .slice vq vn vm, .slice uq un um] 43) = w6 := ⟨_, rfl⟩
       have hb8 := Lib.hid (one_box (xs := [.int .i64 va, .bool vb, .int .u16 vc, .slice vq vn vm, .slice uq un um]) hw6)
       have hv6 := Lib.hid (hv.below hb8.out.1 (Nat.le_refl _))
       have s5 := sizeQue (.int .i64 va) (.bool vb) (.int .u16 vc) (.slice vq vn vm) (.slice uq un um)
       have hvn : Hid (vn ≤ 1000000) := by show _ ≤ _; have h1 : (qOf L ⟨t, k, id⟩).hs.length = vn := hv.hs.len; have h2 := hqs.out.1; omega
       have hun : Hid (un = (qOf L ⟨t, k, id⟩).ws.length) := by show _ = _; have h1 : (qOf L ⟨t, k, id⟩).ws.length = un := hv.ws.len; exact h1.symm
       have hb9 := Lib.hid (below_step hb8.out.1 hb7.out)
       have hwn := Lib.hid (wanting_any va vb vc vq vn vm uq un um _ x m ⟨zx, zm, zh⟩ false hz w6 ⟨hLW.out.goes hb9.out, hLW.out.cov hb9.out⟩ hv6.out.hs hqr.out hvn.out)
       clear hb6 hv
       simp only [QV.val_eq])
    | (with_reducible refine wpList_load_at rfl 43 (.tmp 12) rfl Tryz.underlying43 rfl s5 rfl hb8d.out.all ?_)
    | (with_reducible refine wpList_load_at rfl 43 (.tmp 12) rfl Tryz.underlying43 rfl s5 rfl hb8.out.2.1.all ?_)
    | (go_at_call 64
       refine hwn.out.mono ?_
       rintro e8 w7 ⟨rfl, hb10⟩
       obtain ⟨w8, hw8⟩ : ∃ w8, w7.alloc (.cells #[.int .i64 zx, .int .i64 zm, .int .i64 zh] 47) = w8 := ⟨_, rfl⟩
       have hb11 := Lib.hid (one_box (xs := [.int .i64 zx, .int .i64 zm, .int .i64 zh]) hw8)
       have hb12' := Lib.hid (below_step hb11.out.1 hb10)
       have hb13 := Lib.hid (below_step hb12'.out hb9.out)
       have hb8d := Lib.hid (hb8.out.2.1.below hb12'.out (Nat.le_refl _))
       have x0c := Lib.hid (x0.out.below hb13.out (Nat.le_refl _))
       have x1d := Lib.hid (x1.out.below hb13.out (Nat.le_refl _))
       have r8 := Lib.hid (hr2.out.below hb13.out)
       have s4 := sizeWait (.int .i64 zx) (.int .i64 zm) (.int .i64 zh)
       have hhs := Lib.hid (hv6.out.hs.below hb12'.out (Nat.le_refl _))
       have hgo := Lib.hid (goes_l_any va vb vc vq vn vm uq un um _ zx zm zh w8 (hLW.out.goes hb13.out) hhs.out hvn.out)
       rw [hgb] at hgo
       clear hb10 hw6)
    | (with_reducible refine wpList_load_at rfl 47 (.tmp 14) rfl Tryz.underlying47 rfl s4 rfl hwb2.out.all ?_)
    | (with_reducible refine wpList_load_at rfl 47 (.tmp 14) rfl Tryz.underlying47 rfl s4 rfl hb11.out.2.1.all ?_)
    | (go_at_call 66; refine hgo.out.mono ?_; rintro e9 w9 ⟨rfl, hb14⟩; have hb15 := Lib.hid hb14; have hwb2 := Lib.hid (hb11.out.2.1.below hb14 (Nat.le_refl _)); have hb16 := Lib.hid (below_step hb14 hb13.out); have x0d := Lib.hid (x0.out.below hb16.out (Nat.le_refl _)); have x1d := Lib.hid (x1.out.below hb16.out (Nat.le_refl _)); have q4 := (hb8d.out.below hb14 (Nat.le_refl _)).cell 4 rfl; have e0 := hwb2.out.cell 0 rfl; have e1 := hwb2.out.cell 1 rfl; have e2 := hwb2.out.cell 2 rfl; clear hb14)
    | (go_at_call 67; refine (converts_any zx zm zh _).mono ?_; rintro e11 w11 ⟨rfl, hb17⟩; rw [hcv]; have hb18 := Lib.hid (below_step hb17 hb16.out); have x0d := Lib.hid (x0.out.below hb18.out (Nat.le_refl _)); have x1d := Lib.hid (x1.out.below hb18.out (Nat.le_refl _)); have q4 := (hb8d.out.below (below_step hb17 hb15.out) (Nat.le_refl _)).cell 4 rfl; have hchg := Lib.hid (changed1_any _ q n c V L t k id (graD ⟨zx, zm, zh⟩) _ (hh.out.below hb18.out (Nat.le_refl _)) hsm'.out hn'.out hck.out.sort g0 g1 (do_ask1 _ L _ zx zm zh _ (hwb2.out.below hb17 (Nat.le_refl _)) hsm'.out hck.out.sorts)); clear hb17 e0 e1 e2)
    | (go_at_call 68
       refine hchg.out.mono ?_
       rintro e12 w12 ⟨q', n', c', V', rfl, k1, k2⟩
       have hk1 := Lib.hid k1
       have hk2 := Lib.hid k2
       have r12 := Lib.hid (hr2.out.below (below_step k2 hb18.out))
       have t6 := sizeLks (.slice q' n' c')
       have hone6 : ∀ y ∈ ([.slice q' n' c'] : List Value), y.oneCell' = true := fun y hy => by obtain rfl := List.mem_singleton.1 hy; rfl
       clear k1 k2)
    | ((with_reducible refine wpList_store_at rfl 24 (.tmp 8) (.tmp 66) rfl (o := 0) (vs := [.slice q' n' c']) rfl rfl r12.out t6 (Nat.le_refl _) hone6 ?_)
       intro w9 h9 hg9
       have q9 : Hid (RowV 24 w9 W1.heap.size [.slice q' n' c']) := h9
       have hg9' := Lib.hid hg9
       clear h9 hg9))
  have m0 := q9.out.cell 0
  simp only [List.getElem?_cons_zero] at m0
  have hfin : Below w.heap.size w w9 := low_step (below_step hk2.out (below_step hb18.out hbW.out)) hg9'.out (by have := hs1.out; omega)
  have hz1 := hb18.out.size
  exact bodyPost_ret (v := .tuple #[.agg #[.slice q' n' c'], .int .i64 2, .int .i64 0]) (by simp [results, Tryz.results30, go_sem, m0]) rfl ⟨q', n', c', V', rfl, (hk1.out.lp.gr hg9'.out (by have := hs1.out; have := hs2.out; omega)).mono (by have := hs2.out; omega), hfin⟩

set_option maxRecDepth 100000 in
set_option maxHeartbeats 4000000 in
theorem ask_t101 (q : Option Addr) (n c : Nat) (V : List QV) (L : List QueD) (x t : Int) (k : Bool) (id m : Int) (L' : List QueD) (a er : Int) (h1 : AskE L x ⟨t, k, id⟩ m 0) (hd1 : (wantE (qOf L ⟨t, k, id⟩).hs x m).2 = false) (hT : thereQ L ⟨t, k, id⟩ = true) (hgb : goesW (qOf L ⟨t, k, id⟩).hs (wantE (qOf L ⟨t, k, id⟩).hs x m).1 = true) (hcv : convB (wantE (qOf L ⟨t, k, id⟩).hs x m).1 = false) (hub : (qOf L ⟨t, k, id⟩).ws.length = 0) (he : (chgL L ⟨t, k, id⟩ (graD (wantE (qOf L ⟨t, k, id⟩).hs x m).1), (2 : Int), (0 : Int)) = (L', a, er)) (w : World) (hL : Lay w) (h : LkOn w q n c V L) (hsm : Sm L) (hn : n ≤ 900000) (g0 : 0 ≤ id) (g1 : id < 65536) :
    Calls Tryz.prog 30 #[.agg #[.slice q n c], .int .i64 x, .agg #[.int .i64 t, .bool k, .int .u16 id], .int .i64 m] w (AsPost L' a er w) := by
  obtain ⟨W0, hW0⟩ : ∃ W, w.alloc (.cells #[.slice q n c] 24) = W := ⟨_, rfl⟩
  have hb0 := Lib.hid (one_box (xs := [.slice q n c]) hW0)
  obtain ⟨W1, hW1⟩ : ∃ W, W0.alloc (.cells #[.int .i64 t, .bool k, .int .u16 id] 30) = W := ⟨_, rfl⟩
  have hb1 := Lib.hid (one_box (xs := [.int .i64 t, .bool k, .int .u16 id]) hW1)
  obtain ⟨W, hW⟩ : ∃ W, W1.alloc (.cells #[.slice none 0 0] 24) = W := ⟨_, rfl⟩
  have hb2 := Lib.hid (one_box (xs := [.slice none 0 0]) hW)
  have hr2 : Hid (RowV 24 W W1.heap.size [.slice none 0 0]) := RowV.made' (cs := [.slice none 0 0]) hW
  have hs0 : Hid (W0.heap.size = w.heap.size + 1) := hb0.out.2.2
  have hs1 : Hid (W1.heap.size = w.heap.size + 2) := by show _ = _; have h1 := hb1.out.2.2; have h2 := hs0.out; omega
  have hs2 : Hid (W.heap.size = w.heap.size + 3) := by show _ = _; have h1 := hb2.out.2.2; have h2 := hs1.out; omega
  have hb12 := Lib.hid (below_step hb2.out.1 hb1.out.1)
  have hbW := Lib.hid (below_step hb12.out hb0.out.1)
  have x0 := Lib.hid (hb0.out.2.1.below hb12.out (Nat.le_refl _))
  have x1 := Lib.hid (hb1.out.2.1.below hb2.out.1 (Nat.le_refl _))
  have hh := Lib.hid (h.below hbW.out (Nat.le_refl _))
  have hl := Lib.hid h.len
  have s1 := sizeLks (.slice q n c)
  have s3 := sizeRes (.int .i64 t) (.bool k) (.int .u16 id)
  have sz := sizeLks (.slice none 0 0)
  have honez : ∀ y ∈ ([.slice none 0 0] : List Value), y.oneCell' = true := fun y hy => by obtain rfl := List.mem_singleton.1 hy; rfl
  have hLW : Hid (Lay W) := ⟨hL.goes hbW.out, hL.cov hbW.out⟩
  have hsm' := Lib.hid hsm
  have hn' := Lib.hid hn
  clear h hsm hL hn
  cases he
  have hck := Lib.hid h1.chk.1
  have hc := Lib.hid (mayAsk_any q n c V L x t k id m 0 h1 W hLW.out hh.out hsm'.out (by have := hn'.out; omega))
  have hq := Lib.hid (fun u (hu : Below W.heap.size W u) => queueOf_any q n c V L t k id u (hh.out.below hu (Nat.le_refl _)) hck.out.sort (by have := hn'.out; omega) g0 g1)
  have hqs := Lib.hid (qOf_small hsm'.out ⟨t, k, id⟩)
  have hqr := Lib.hid (qOf_sort hck.out.sorts ⟨t, k, id⟩)
  obtain ⟨⟨⟨zx, zm, zh⟩, bb⟩, hz⟩ : ∃ z, wantE (qOf L ⟨t, k, id⟩).hs x m = z := ⟨_, rfl⟩
  rw [hz] at hd1
  obtain rfl : bb = false := hd1
  rw [hz] at hgb hcv
  simp only at hgb hcv
  rw [hz]
  clear h1
  go_enter Tryz.func30, Tryz.ntmps30
  go_wp2_with (first
    | (with_reducible refine wpList_load_at rfl 24 (.tmp 4) rfl Tryz.underlying24 rfl s1 rfl x0d.out.all ?_)
    | (with_reducible refine wpList_load_at rfl 24 (.tmp 4) rfl Tryz.underlying24 rfl s1 rfl x0c.out.all ?_)
    | (with_reducible refine wpList_load_at rfl 24 (.tmp 4) rfl Tryz.underlying24 rfl s1 rfl x0b.out.all ?_)
    | (with_reducible refine wpList_load_at rfl 24 (.tmp 4) rfl Tryz.underlying24 rfl s1 rfl x0.out.all ?_)
    | (with_reducible refine wpList_load_at rfl 30 (.tmp 6) rfl Tryz.underlying30 rfl s3 rfl x1d.out.all ?_)
    | (with_reducible refine wpList_load_at rfl 30 (.tmp 6) rfl Tryz.underlying30 rfl s3 rfl x1b.out.all ?_)
    | (with_reducible refine wpList_load_at rfl 30 (.tmp 6) rfl Tryz.underlying30 rfl s3 rfl x1.out.all ?_)
    | (go_at_call 63; refine hc.out.mono ?_; rintro e5 w2 ⟨rfl, hb2⟩; have hb3 := Lib.hid hb2; have x0b := Lib.hid (x0.out.below hb2 (Nat.le_refl _)); have x1b := Lib.hid (x1.out.below hb2 (Nat.le_refl _)); clear hb2 hW hW0 hW1)
    | (go_at_call 53
       refine (hq.out _ hb3.out).mono ?_
       rintro e7 w5 ⟨⟨⟨va, vb, vc⟩, vq, vn, vm, uq, un, um⟩, rfl, hv, hb6⟩
       rw [hT]
       have hb7 := Lib.hid (below_step hb6 hb3.out)
       obtain ⟨w6, hw6⟩ : ∃ w6, w5.alloc (.cells #[.int .i64 va, .bool vb, .int .u16 vc, .slice vq vn vm, .slice uq un um] 43) = w6 := ⟨_, rfl⟩
       have hb8 := Lib.hid (one_box (xs := [.int .i64 va, .bool vb, .int .u16 vc, .slice vq vn vm, .slice uq un um]) hw6)
       have hv6 := Lib.hid (hv.below hb8.out.1 (Nat.le_refl _))
       have s5 := sizeQue (.int .i64 va) (.bool vb) (.int .u16 vc) (.slice vq vn vm) (.slice uq un um)
       have hvn : Hid (vn ≤ 1000000) := by show _ ≤ _; have h1 : (qOf L ⟨t, k, id⟩).hs.length = vn := hv.hs.len; have h2 := hqs.out.1; omega
       have hun : Hid (un = (qOf L ⟨t, k, id⟩).ws.length) := by show _ = _; have h1 : (qOf L ⟨t, k, id⟩).ws.length = un := hv.ws.len; exact h1.symm
       have hb9 := Lib.hid (below_step hb8.out.1 hb7.out)
       have hwn := Lib.hid (wanting_any va vb vc vq vn vm uq un um _ x m ⟨zx, zm, zh⟩ false hz w6 ⟨hLW.out.goes hb9.out, hLW.out.cov hb9.out⟩ hv6.out.hs hqr.out hvn.out)
       clear hb6 hv
       simp only [QV.val_eq])
    | (with_reducible refine wpList_load_at rfl 43 (.tmp 12) rfl Tryz.underlying43 rfl s5 rfl hb8d.out.all ?_)
    | (with_reducible refine wpList_load_at rfl 43 (.tmp 12) rfl Tryz.underlying43 rfl s5 rfl hb8.out.2.1.all ?_)
    | (go_at_call 64
       refine hwn.out.mono ?_
       rintro e8 w7 ⟨rfl, hb10⟩
       obtain ⟨w8, hw8⟩ : ∃ w8, w7.alloc (.cells #[.int .i64 zx, .int .i64 zm, .int .i64 zh] 47) = w8 := ⟨_, rfl⟩
       have hb11 := Lib.hid (one_box (xs := [.int .i64 zx, .int .i64 zm, .int .i64 zh]) hw8)
       have hb12' := Lib.hid (below_step hb11.out.1 hb10)
       have hb13 := Lib.hid (below_step hb12'.out hb9.out)
       have hb8d := Lib.hid (hb8.out.2.1.below hb12'.out (Nat.le_refl _))
       have x0c := Lib.hid (x0.out.below hb13.out (Nat.le_refl _))
       have x1d := Lib.hid (x1.out.below hb13.out (Nat.le_refl _))
       have r8 := Lib.hid (hr2.out.below hb13.out)
       have s4 := sizeWait (.int .i64 zx) (.int .i64 zm) (.int .i64 zh)
       have hhs := Lib.hid (hv6.out.hs.below hb12'.out (Nat.le_refl _))
       have hgo := Lib.hid (goes_l_any va vb vc vq vn vm uq un um _ zx zm zh w8 (hLW.out.goes hb13.out) hhs.out hvn.out)
       rw [hgb] at hgo
       have hub' : ((un : Int) == 0) = true := by have := hun.out; simp; omega
       clear hb10 hw6)
    | (with_reducible refine wpList_load_at rfl 47 (.tmp 14) rfl Tryz.underlying47 rfl s4 rfl hwb2.out.all ?_)
    | (with_reducible refine wpList_load_at rfl 47 (.tmp 14) rfl Tryz.underlying47 rfl s4 rfl hb11.out.2.1.all ?_)
    | (go_at_call 66; refine hgo.out.mono ?_; rintro e9 w9 ⟨rfl, hb14⟩; have hb15 := Lib.hid hb14; have hwb2 := Lib.hid (hb11.out.2.1.below hb14 (Nat.le_refl _)); have hb16 := Lib.hid (below_step hb14 hb13.out); have x0d := Lib.hid (x0.out.below hb16.out (Nat.le_refl _)); have x1d := Lib.hid (x1.out.below hb16.out (Nat.le_refl _)); have q4 := (hb8d.out.below hb14 (Nat.le_refl _)).cell 4 rfl; have e0 := hwb2.out.cell 0 rfl; have e1 := hwb2.out.cell 1 rfl; have e2 := hwb2.out.cell 2 rfl; clear hb14)
    | (go_at_call 67; refine (converts_any zx zm zh _).mono ?_; rintro e11 w11 ⟨rfl, hb17⟩; rw [hcv]; have hb18 := Lib.hid (below_step hb17 hb16.out); have x0d := Lib.hid (x0.out.below hb18.out (Nat.le_refl _)); have x1d := Lib.hid (x1.out.below hb18.out (Nat.le_refl _)); have q4 := (hb8d.out.below (below_step hb17 hb15.out) (Nat.le_refl _)).cell 4 rfl; have hchg := Lib.hid (changed1_any _ q n c V L t k id (graD ⟨zx, zm, zh⟩) _ (hh.out.below hb18.out (Nat.le_refl _)) hsm'.out hn'.out hck.out.sort g0 g1 (do_ask1 _ L _ zx zm zh _ (hwb2.out.below hb17 (Nat.le_refl _)) hsm'.out hck.out.sorts)); clear hb17 e0 e1 e2)
    | (go_at_call 68
       refine hchg.out.mono ?_
       rintro e12 w12 ⟨q', n', c', V', rfl, k1, k2⟩
       have hk1 := Lib.hid k1
       have hk2 := Lib.hid k2
       have r12 := Lib.hid (hr2.out.below (below_step k2 hb18.out))
       have t6 := sizeLks (.slice q' n' c')
       have hone6 : ∀ y ∈ ([.slice q' n' c'] : List Value), y.oneCell' = true := fun y hy => by obtain rfl := List.mem_singleton.1 hy; rfl
       clear k1 k2)
    | ((with_reducible refine wpList_store_at rfl 24 (.tmp 8) (.tmp 66) rfl (o := 0) (vs := [.slice q' n' c']) rfl rfl r12.out t6 (Nat.le_refl _) hone6 ?_)
       intro w9 h9 hg9
       have q9 : Hid (RowV 24 w9 W1.heap.size [.slice q' n' c']) := h9
       have hg9' := Lib.hid hg9
       clear h9 hg9))
  have m0 := q9.out.cell 0
  simp only [List.getElem?_cons_zero] at m0
  have hfin : Below w.heap.size w w9 := low_step (below_step hk2.out (below_step hb18.out hbW.out)) hg9'.out (by have := hs1.out; omega)
  have hz1 := hb18.out.size
  exact bodyPost_ret (v := .tuple #[.agg #[.slice q' n' c'], .int .i64 2, .int .i64 0]) (by simp [results, Tryz.results30, go_sem, m0]) rfl ⟨q', n', c', V', rfl, (hk1.out.lp.gr hg9'.out (by have := hs1.out; have := hs2.out; omega)).mono (by have := hs2.out; omega), hfin⟩

set_option maxRecDepth 100000 in
set_option maxHeartbeats 4000000 in
theorem ask_t100 (q : Option Addr) (n c : Nat) (V : List QV) (L : List QueD) (x t : Int) (k : Bool) (id m : Int) (L' : List QueD) (a er : Int) (h1 : AskE L x ⟨t, k, id⟩ m 0) (hd1 : (wantE (qOf L ⟨t, k, id⟩).hs x m).2 = false) (hT : thereQ L ⟨t, k, id⟩ = true) (hgb : goesW (qOf L ⟨t, k, id⟩).hs (wantE (qOf L ⟨t, k, id⟩).hs x m).1 = true) (hcv : convB (wantE (qOf L ⟨t, k, id⟩).hs x m).1 = false) (hub : (qOf L ⟨t, k, id⟩).ws.length ≠ 0) (he : (chgL L ⟨t, k, id⟩ (linD (wantE (qOf L ⟨t, k, id⟩).hs x m).1), (3 : Int), (0 : Int)) = (L', a, er)) (w : World) (hL : Lay w) (h : LkOn w q n c V L) (hsm : Sm L) (hn : n ≤ 900000) (g0 : 0 ≤ id) (g1 : id < 65536) :
    Calls Tryz.prog 30 #[.agg #[.slice q n c], .int .i64 x, .agg #[.int .i64 t, .bool k, .int .u16 id], .int .i64 m] w (AsPost L' a er w) := by
  obtain ⟨W0, hW0⟩ : ∃ W, w.alloc (.cells #[.slice q n c] 24) = W := ⟨_, rfl⟩
  have hb0 := Lib.hid (one_box (xs := [.slice q n c]) hW0)
  obtain ⟨W1, hW1⟩ : ∃ W, W0.alloc (.cells #[.int .i64 t, .bool k, .int .u16 id] 30) = W := ⟨_, rfl⟩
  have hb1 := Lib.hid (one_box (xs := [.int .i64 t, .bool k, .int .u16 id]) hW1)
  obtain ⟨W, hW⟩ : ∃ W, W1.alloc (.cells #[.slice none 0 0] 24) = W := ⟨_, rfl⟩
  have hb2 := Lib.hid (one_box (xs := [.slice none 0 0]) hW)
  have hr2 : Hid (RowV 24 W W1.heap.size [.slice none 0 0]) := RowV.made' (cs := [.slice none 0 0]) hW
  have hs0 : Hid (W0.heap.size = w.heap.size + 1) := hb0.out.2.2
  have hs1 : Hid (W1.heap.size = w.heap.size + 2) := by show _ = _; have h1 := hb1.out.2.2; have h2 := hs0.out; omega
  have hs2 : Hid (W.heap.size = w.heap.size + 3) := by show _ = _; have h1 := hb2.out.2.2; have h2 := hs1.out; omega
  have hb12 := Lib.hid (below_step hb2.out.1 hb1.out.1)
  have hbW := Lib.hid (below_step hb12.out hb0.out.1)
  have x0 := Lib.hid (hb0.out.2.1.below hb12.out (Nat.le_refl _))
  have x1 := Lib.hid (hb1.out.2.1.below hb2.out.1 (Nat.le_refl _))
  have hh := Lib.hid (h.below hbW.out (Nat.le_refl _))
  have hl := Lib.hid h.len
  have s1 := sizeLks (.slice q n c)
  have s3 := sizeRes (.int .i64 t) (.bool k) (.int .u16 id)
  have sz := sizeLks (.slice none 0 0)
  have honez : ∀ y ∈ ([.slice none 0 0] : List Value), y.oneCell' = true := fun y hy => by obtain rfl := List.mem_singleton.1 hy; rfl
  have hLW : Hid (Lay W) := ⟨hL.goes hbW.out, hL.cov hbW.out⟩
  have hsm' := Lib.hid hsm
  have hn' := Lib.hid hn
  clear h hsm hL hn
  cases he
  have hck := Lib.hid h1.chk.1
  have hc := Lib.hid (mayAsk_any q n c V L x t k id m 0 h1 W hLW.out hh.out hsm'.out (by have := hn'.out; omega))
  have hq := Lib.hid (fun u (hu : Below W.heap.size W u) => queueOf_any q n c V L t k id u (hh.out.below hu (Nat.le_refl _)) hck.out.sort (by have := hn'.out; omega) g0 g1)
  have hqs := Lib.hid (qOf_small hsm'.out ⟨t, k, id⟩)
  have hqr := Lib.hid (qOf_sort hck.out.sorts ⟨t, k, id⟩)
  obtain ⟨⟨⟨zx, zm, zh⟩, bb⟩, hz⟩ : ∃ z, wantE (qOf L ⟨t, k, id⟩).hs x m = z := ⟨_, rfl⟩
  rw [hz] at hd1
  obtain rfl : bb = false := hd1
  rw [hz] at hgb hcv
  simp only at hgb hcv
  rw [hz]
  clear h1
  go_enter Tryz.func30, Tryz.ntmps30
  go_wp2_with (first
    | (with_reducible refine wpList_load_at rfl 24 (.tmp 4) rfl Tryz.underlying24 rfl s1 rfl x0d.out.all ?_)
    | (with_reducible refine wpList_load_at rfl 24 (.tmp 4) rfl Tryz.underlying24 rfl s1 rfl x0c.out.all ?_)
    | (with_reducible refine wpList_load_at rfl 24 (.tmp 4) rfl Tryz.underlying24 rfl s1 rfl x0b.out.all ?_)
    | (with_reducible refine wpList_load_at rfl 24 (.tmp 4) rfl Tryz.underlying24 rfl s1 rfl x0.out.all ?_)
    | (with_reducible refine wpList_load_at rfl 30 (.tmp 6) rfl Tryz.underlying30 rfl s3 rfl x1d.out.all ?_)
    | (with_reducible refine wpList_load_at rfl 30 (.tmp 6) rfl Tryz.underlying30 rfl s3 rfl x1b.out.all ?_)
    | (with_reducible refine wpList_load_at rfl 30 (.tmp 6) rfl Tryz.underlying30 rfl s3 rfl x1.out.all ?_)
    | (go_at_call 63; refine hc.out.mono ?_; rintro e5 w2 ⟨rfl, hb2⟩; have hb3 := Lib.hid hb2; have x0b := Lib.hid (x0.out.below hb2 (Nat.le_refl _)); have x1b := Lib.hid (x1.out.below hb2 (Nat.le_refl _)); clear hb2 hW hW0 hW1)
    | (go_at_call 53
       refine (hq.out _ hb3.out).mono ?_
       rintro e7 w5 ⟨⟨⟨va, vb, vc⟩, vq, vn, vm, uq, un, um⟩, rfl, hv, hb6⟩
       rw [hT]
       have hb7 := Lib.hid (below_step hb6 hb3.out)
       obtain ⟨w6, hw6⟩ : ∃ w6, w5.alloc (.cells #[.int .i64 va, .bool vb, .int .u16 vc, .slice vq vn vm, .slice uq un um] 43) = w6 := ⟨_, rfl⟩
       have hb8 := Lib.hid (one_box (xs := [.int .i64 va, .bool vb, .int .u16 vc, .slice vq vn vm, .slice uq un um]) hw6)
       have hv6 := Lib.hid (hv.below hb8.out.1 (Nat.le_refl _))
       have s5 := sizeQue (.int .i64 va) (.bool vb) (.int .u16 vc) (.slice vq vn vm) (.slice uq un um)
       have hvn : Hid (vn ≤ 1000000) := by show _ ≤ _; have h1 : (qOf L ⟨t, k, id⟩).hs.length = vn := hv.hs.len; have h2 := hqs.out.1; omega
       have hun : Hid (un = (qOf L ⟨t, k, id⟩).ws.length) := by show _ = _; have h1 : (qOf L ⟨t, k, id⟩).ws.length = un := hv.ws.len; exact h1.symm
       have hb9 := Lib.hid (below_step hb8.out.1 hb7.out)
       have hwn := Lib.hid (wanting_any va vb vc vq vn vm uq un um _ x m ⟨zx, zm, zh⟩ false hz w6 ⟨hLW.out.goes hb9.out, hLW.out.cov hb9.out⟩ hv6.out.hs hqr.out hvn.out)
       clear hb6 hv
       simp only [QV.val_eq])
    | (with_reducible refine wpList_load_at rfl 43 (.tmp 12) rfl Tryz.underlying43 rfl s5 rfl hb8d.out.all ?_)
    | (with_reducible refine wpList_load_at rfl 43 (.tmp 12) rfl Tryz.underlying43 rfl s5 rfl hb8.out.2.1.all ?_)
    | (go_at_call 64
       refine hwn.out.mono ?_
       rintro e8 w7 ⟨rfl, hb10⟩
       obtain ⟨w8, hw8⟩ : ∃ w8, w7.alloc (.cells #[.int .i64 zx, .int .i64 zm, .int .i64 zh] 47) = w8 := ⟨_, rfl⟩
       have hb11 := Lib.hid (one_box (xs := [.int .i64 zx, .int .i64 zm, .int .i64 zh]) hw8)
       have hb12' := Lib.hid (below_step hb11.out.1 hb10)
       have hb13 := Lib.hid (below_step hb12'.out hb9.out)
       have hb8d := Lib.hid (hb8.out.2.1.below hb12'.out (Nat.le_refl _))
       have x0c := Lib.hid (x0.out.below hb13.out (Nat.le_refl _))
       have x1d := Lib.hid (x1.out.below hb13.out (Nat.le_refl _))
       have r8 := Lib.hid (hr2.out.below hb13.out)
       have s4 := sizeWait (.int .i64 zx) (.int .i64 zm) (.int .i64 zh)
       have hhs := Lib.hid (hv6.out.hs.below hb12'.out (Nat.le_refl _))
       have hgo := Lib.hid (goes_l_any va vb vc vq vn vm uq un um _ zx zm zh w8 (hLW.out.goes hb13.out) hhs.out hvn.out)
       rw [hgb] at hgo
       have hub' : ((un : Int) == 0) = false := by have := hun.out; simp; omega
       clear hb10 hw6)
    | (with_reducible refine wpList_load_at rfl 47 (.tmp 14) rfl Tryz.underlying47 rfl s4 rfl hwb2.out.all ?_)
    | (with_reducible refine wpList_load_at rfl 47 (.tmp 14) rfl Tryz.underlying47 rfl s4 rfl hb11.out.2.1.all ?_)
    | (go_at_call 66; refine hgo.out.mono ?_; rintro e9 w9 ⟨rfl, hb14⟩; have hb15 := Lib.hid hb14; have hwb2 := Lib.hid (hb11.out.2.1.below hb14 (Nat.le_refl _)); have hb16 := Lib.hid (below_step hb14 hb13.out); have x0d := Lib.hid (x0.out.below hb16.out (Nat.le_refl _)); have x1d := Lib.hid (x1.out.below hb16.out (Nat.le_refl _)); have q4 := (hb8d.out.below hb14 (Nat.le_refl _)).cell 4 rfl; have e0 := hwb2.out.cell 0 rfl; have e1 := hwb2.out.cell 1 rfl; have e2 := hwb2.out.cell 2 rfl; clear hb14)
    | (go_at_call 67; refine (converts_any zx zm zh _).mono ?_; rintro e11 w11 ⟨rfl, hb17⟩; rw [hcv]; have hb18 := Lib.hid (below_step hb17 hb16.out); have x0d := Lib.hid (x0.out.below hb18.out (Nat.le_refl _)); have x1d := Lib.hid (x1.out.below hb18.out (Nat.le_refl _)); have q4 := (hb8d.out.below (below_step hb17 hb15.out) (Nat.le_refl _)).cell 4 rfl; have hchg := Lib.hid (changed2_any _ q n c V L t k id (linD ⟨zx, zm, zh⟩) _ (hh.out.below hb18.out (Nat.le_refl _)) hsm'.out hn'.out hck.out.sort g0 g1 (do_ask2 _ L _ zx zm zh _ (hwb2.out.below hb17 (Nat.le_refl _)) hsm'.out hck.out.ords)); clear hb17 e0 e1 e2)
    | (go_at_call 68
       refine hchg.out.mono ?_
       rintro e12 w12 ⟨q', n', c', V', rfl, k1, k2⟩
       have hk1 := Lib.hid k1
       have hk2 := Lib.hid k2
       have r12 := Lib.hid (hr2.out.below (below_step k2 hb18.out))
       have t6 := sizeLks (.slice q' n' c')
       have hone6 : ∀ y ∈ ([.slice q' n' c'] : List Value), y.oneCell' = true := fun y hy => by obtain rfl := List.mem_singleton.1 hy; rfl
       clear k1 k2)
    | ((with_reducible refine wpList_store_at rfl 24 (.tmp 8) (.tmp 70) rfl (o := 0) (vs := [.slice q' n' c']) rfl rfl r12.out t6 (Nat.le_refl _) hone6 ?_)
       intro w9 h9 hg9
       have q9 : Hid (RowV 24 w9 W1.heap.size [.slice q' n' c']) := h9
       have hg9' := Lib.hid hg9
       clear h9 hg9))
  have m0 := q9.out.cell 0
  simp only [List.getElem?_cons_zero] at m0
  have hfin : Below w.heap.size w w9 := low_step (below_step hk2.out (below_step hb18.out hbW.out)) hg9'.out (by have := hs1.out; omega)
  have hz1 := hb18.out.size
  exact bodyPost_ret (v := .tuple #[.agg #[.slice q' n' c'], .int .i64 3, .int .i64 0]) (by simp [results, Tryz.results30, go_sem, m0]) rfl ⟨q', n', c', V', rfl, (hk1.out.lp.gr hg9'.out (by have := hs1.out; have := hs2.out; omega)).mono (by have := hs2.out; omega), hfin⟩

set_option maxRecDepth 100000 in
set_option maxHeartbeats 4000000 in
theorem ask_f000 (q : Option Addr) (n c : Nat) (V : List QV) (L : List QueD) (x t : Int) (k : Bool) (id m : Int) (L' : List QueD) (a er : Int) (h1 : AskE L x ⟨t, k, id⟩ m 0) (hd1 : (wantE (qOf L ⟨t, k, id⟩).hs x m).2 = false) (hT : thereQ L ⟨t, k, id⟩ = false) (hfl : L.length ≠ 500) (hgb : goesW (qOf L ⟨t, k, id⟩).hs (wantE (qOf L ⟨t, k, id⟩).hs x m).1 = false) (he : (chgL L ⟨t, k, id⟩ (linD (wantE (qOf L ⟨t, k, id⟩).hs x m).1), (3 : Int), (0 : Int)) = (L', a, er)) (w : World) (hL : Lay w) (h : LkOn w q n c V L) (hsm : Sm L) (hn : n ≤ 900000) (g0 : 0 ≤ id) (g1 : id < 65536) :
    Calls Tryz.prog 30 #[.agg #[.slice q n c], .int .i64 x, .agg #[.int .i64 t, .bool k, .int .u16 id], .int .i64 m] w (AsPost L' a er w) := by
  obtain ⟨W0, hW0⟩ : ∃ W, w.alloc (.cells #[.slice q n c] 24) = W := ⟨_, rfl⟩
  have hb0 := Lib.hid (one_box (xs := [.slice q n c]) hW0)
  obtain ⟨W1, hW1⟩ : ∃ W, W0.alloc (.cells #[.int .i64 t, .bool k, .int .u16 id] 30) = W := ⟨_, rfl⟩
  have hb1 := Lib.hid (one_box (xs := [.int .i64 t, .bool k, .int .u16 id]) hW1)
  obtain ⟨W, hW⟩ : ∃ W, W1.alloc (.cells #[.slice none 0 0] 24) = W := ⟨_, rfl⟩
  have hb2 := Lib.hid (one_box (xs := [.slice none 0 0]) hW)
  have hr2 : Hid (RowV 24 W W1.heap.size [.slice none 0 0]) := RowV.made' (cs := [.slice none 0 0]) hW
  have hs0 : Hid (W0.heap.size = w.heap.size + 1) := hb0.out.2.2
  have hs1 : Hid (W1.heap.size = w.heap.size + 2) := by show _ = _; have h1 := hb1.out.2.2; have h2 := hs0.out; omega
  have hs2 : Hid (W.heap.size = w.heap.size + 3) := by show _ = _; have h1 := hb2.out.2.2; have h2 := hs1.out; omega
  have hb12 := Lib.hid (below_step hb2.out.1 hb1.out.1)
  have hbW := Lib.hid (below_step hb12.out hb0.out.1)
  have x0 := Lib.hid (hb0.out.2.1.below hb12.out (Nat.le_refl _))
  have x1 := Lib.hid (hb1.out.2.1.below hb2.out.1 (Nat.le_refl _))
  have hh := Lib.hid (h.below hbW.out (Nat.le_refl _))
  have hl := Lib.hid h.len
  have s1 := sizeLks (.slice q n c)
  have s3 := sizeRes (.int .i64 t) (.bool k) (.int .u16 id)
  have sz := sizeLks (.slice none 0 0)
  have honez : ∀ y ∈ ([.slice none 0 0] : List Value), y.oneCell' = true := fun y hy => by obtain rfl := List.mem_singleton.1 hy; rfl
  have hLW : Hid (Lay W) := ⟨hL.goes hbW.out, hL.cov hbW.out⟩
  have hsm' := Lib.hid hsm
  have hn' := Lib.hid hn
  clear h hsm hL hn
  cases he
  have hfl' : ((n : Int) == 500) = false := by have := hl.out; simp; omega
  have hck := Lib.hid h1.chk.1
  have hc := Lib.hid (mayAsk_any q n c V L x t k id m 0 h1 W hLW.out hh.out hsm'.out (by have := hn'.out; omega))
  have hq := Lib.hid (fun u (hu : Below W.heap.size W u) => queueOf_any q n c V L t k id u (hh.out.below hu (Nat.le_refl _)) hck.out.sort (by have := hn'.out; omega) g0 g1)
  have hqs := Lib.hid (qOf_small hsm'.out ⟨t, k, id⟩)
  have hqr := Lib.hid (qOf_sort hck.out.sorts ⟨t, k, id⟩)
  obtain ⟨⟨⟨zx, zm, zh⟩, bb⟩, hz⟩ : ∃ z, wantE (qOf L ⟨t, k, id⟩).hs x m = z := ⟨_, rfl⟩
  rw [hz] at hd1
  obtain rfl : bb = false := hd1
  rw [hz] at hgb
  simp only at hgb
  rw [hz]
  clear h1
  go_enter Tryz.func30, Tryz.ntmps30
  go_wp2_with (first
    | (with_reducible refine wpList_load_at rfl 24 (.tmp 4) rfl Tryz.underlying24 rfl s1 rfl x0d.out.all ?_)
    | (with_reducible refine wpList_load_at rfl 24 (.tmp 4) rfl Tryz.underlying24 rfl s1 rfl x0c.out.all ?_)
    | (with_reducible refine wpList_load_at rfl 24 (.tmp 4) rfl Tryz.underlying24 rfl s1 rfl x0b.out.all ?_)
    | (with_reducible refine wpList_load_at rfl 24 (.tmp 4) rfl Tryz.underlying24 rfl s1 rfl x0.out.all ?_)
    | (with_reducible refine wpList_load_at rfl 30 (.tmp 6) rfl Tryz.underlying30 rfl s3 rfl x1d.out.all ?_)
    | (with_reducible refine wpList_load_at rfl 30 (.tmp 6) rfl Tryz.underlying30 rfl s3 rfl x1b.out.all ?_)
    | (with_reducible refine wpList_load_at rfl 30 (.tmp 6) rfl Tryz.underlying30 rfl s3 rfl x1.out.all ?_)
    | (go_at_call 63; refine hc.out.mono ?_; rintro e5 w2 ⟨rfl, hb2⟩; have hb3 := Lib.hid hb2; have x0b := Lib.hid (x0.out.below hb2 (Nat.le_refl _)); have x1b := Lib.hid (x1.out.below hb2 (Nat.le_refl _)); clear hb2 hW hW0 hW1)
    | (go_at_call 53
       refine (hq.out _ hb3.out).mono ?_
       rintro e7 w5 ⟨⟨⟨va, vb, vc⟩, vq, vn, vm, uq, un, um⟩, rfl, hv, hb6⟩
       rw [hT]
       have hb7 := Lib.hid (below_step hb6 hb3.out)
       obtain ⟨w6, hw6⟩ : ∃ w6, w5.alloc (.cells #[.int .i64 va, .bool vb, .int .u16 vc, .slice vq vn vm, .slice uq un um] 43) = w6 := ⟨_, rfl⟩
       have hb8 := Lib.hid (one_box (xs := [.int .i64 va, .bool vb, .int .u16 vc, .slice vq vn vm, .slice uq un um]) hw6)
       have hv6 := Lib.hid (hv.below hb8.out.1 (Nat.le_refl _))
       have s5 := sizeQue (.int .i64 va) (.bool vb) (.int .u16 vc) (.slice vq vn vm) (.slice uq un um)
       have hvn : Hid (vn ≤ 1000000) := by show _ ≤ _; have h1 : (qOf L ⟨t, k, id⟩).hs.length = vn := hv.hs.len; have h2 := hqs.out.1; omega
       have hun : Hid (un = (qOf L ⟨t, k, id⟩).ws.length) := by show _ = _; have h1 : (qOf L ⟨t, k, id⟩).ws.length = un := hv.ws.len; exact h1.symm
       have hb9 := Lib.hid (below_step hb8.out.1 hb7.out)
       have hwn := Lib.hid (wanting_any va vb vc vq vn vm uq un um _ x m ⟨zx, zm, zh⟩ false hz w6 ⟨hLW.out.goes hb9.out, hLW.out.cov hb9.out⟩ hv6.out.hs hqr.out hvn.out)
       clear hb6 hv
       simp only [QV.val_eq])
    | (with_reducible refine wpList_load_at rfl 43 (.tmp 12) rfl Tryz.underlying43 rfl s5 rfl hb8d.out.all ?_)
    | (with_reducible refine wpList_load_at rfl 43 (.tmp 12) rfl Tryz.underlying43 rfl s5 rfl hb8.out.2.1.all ?_)
    | (go_at_call 64
       refine hwn.out.mono ?_
       rintro e8 w7 ⟨rfl, hb10⟩
       obtain ⟨w8, hw8⟩ : ∃ w8, w7.alloc (.cells #[.int .i64 zx, .int .i64 zm, .int .i64 zh] 47) = w8 := ⟨_, rfl⟩
       have hb11 := Lib.hid (one_box (xs := [.int .i64 zx, .int .i64 zm, .int .i64 zh]) hw8)
       have hb12' := Lib.hid (below_step hb11.out.1 hb10)
       have hb13 := Lib.hid (below_step hb12'.out hb9.out)
       have hb8d := Lib.hid (hb8.out.2.1.below hb12'.out (Nat.le_refl _))
       have x0c := Lib.hid (x0.out.below hb13.out (Nat.le_refl _))
       have x1d := Lib.hid (x1.out.below hb13.out (Nat.le_refl _))
       have r8 := Lib.hid (hr2.out.below hb13.out)
       have s4 := sizeWait (.int .i64 zx) (.int .i64 zm) (.int .i64 zh)
       have hhs := Lib.hid (hv6.out.hs.below hb12'.out (Nat.le_refl _))
       have cl0 := x0c.out.cell 0 rfl
       have hgo := Lib.hid (goes_l_any va vb vc vq vn vm uq un um _ zx zm zh w8 (hLW.out.goes hb13.out) hhs.out hvn.out)
       rw [hgb] at hgo
       clear hb10 hw6)
    | (with_reducible refine wpList_load_at rfl 47 (.tmp 14) rfl Tryz.underlying47 rfl s4 rfl hwb2.out.all ?_)
    | (with_reducible refine wpList_load_at rfl 47 (.tmp 14) rfl Tryz.underlying47 rfl s4 rfl hb11.out.2.1.all ?_)
    | (go_at_call 66; refine hgo.out.mono ?_; rintro e9 w9 ⟨rfl, hb14⟩; have hb15 := Lib.hid hb14; have hwb2 := Lib.hid (hb11.out.2.1.below hb14 (Nat.le_refl _)); have hb16 := Lib.hid (below_step hb14 hb13.out); have x0d := Lib.hid (x0.out.below hb16.out (Nat.le_refl _)); have x1d := Lib.hid (x1.out.below hb16.out (Nat.le_refl _)); have q4 := (hb8d.out.below hb14 (Nat.le_refl _)).cell 4 rfl; have hchg := Lib.hid (changed2_any _ q n c V L t k id (linD ⟨zx, zm, zh⟩) _ (hh.out.below hb16.out (Nat.le_refl _)) hsm'.out hn'.out hck.out.sort g0 g1 (do_ask2 _ L _ zx zm zh _ hwb2.out hsm'.out hck.out.ords)); clear hb14 cl0)
    | (go_at_call 68
       refine hchg.out.mono ?_
       rintro e12 w12 ⟨q', n', c', V', rfl, k1, k2⟩
       have hk1 := Lib.hid k1
       have hk2 := Lib.hid k2
       have r12 := Lib.hid (hr2.out.below (below_step k2 hb16.out))
       have t6 := sizeLks (.slice q' n' c')
       have hone6 : ∀ y ∈ ([.slice q' n' c'] : List Value), y.oneCell' = true := fun y hy => by obtain rfl := List.mem_singleton.1 hy; rfl
       clear k1 k2)
    | ((with_reducible refine wpList_store_at rfl 24 (.tmp 8) (.tmp 70) rfl (o := 0) (vs := [.slice q' n' c']) rfl rfl r12.out t6 (Nat.le_refl _) hone6 ?_)
       intro w9 h9 hg9
       have q9 : Hid (RowV 24 w9 W1.heap.size [.slice q' n' c']) := h9
       have hg9' := Lib.hid hg9
       clear h9 hg9))
  have m0 := q9.out.cell 0
  simp only [List.getElem?_cons_zero] at m0
  have hfin : Below w.heap.size w w9 := low_step (below_step hk2.out (below_step hb16.out hbW.out)) hg9'.out (by have := hs1.out; omega)
  have hz1 := hb16.out.size
  exact bodyPost_ret (v := .tuple #[.agg #[.slice q' n' c'], .int .i64 3, .int .i64 0]) (by simp [results, Tryz.results30, go_sem, m0]) rfl ⟨q', n', c', V', rfl, (hk1.out.lp.gr hg9'.out (by have := hs1.out; have := hs2.out; omega)).mono (by have := hs2.out; omega), hfin⟩

set_option maxRecDepth 100000 in
set_option maxHeartbeats 4000000 in
theorem ask_f110 (q : Option Addr) (n c : Nat) (V : List QV) (L : List QueD) (x t : Int) (k : Bool) (id m : Int) (L' : List QueD) (a er : Int) (h1 : AskE L x ⟨t, k, id⟩ m 0) (hd1 : (wantE (qOf L ⟨t, k, id⟩).hs x m).2 = false) (hT : thereQ L ⟨t, k, id⟩ = false) (hfl : L.length ≠ 500) (hgb : goesW (qOf L ⟨t, k, id⟩).hs (wantE (qOf L ⟨t, k, id⟩).hs x m).1 = true) (hcv : convB (wantE (qOf L ⟨t, k, id⟩).hs x m).1 = true) (he : (chgL L ⟨t, k, id⟩ (graD (wantE (qOf L ⟨t, k, id⟩).hs x m).1), (2 : Int), (0 : Int)) = (L', a, er)) (w : World) (hL : Lay w) (h : LkOn w q n c V L) (hsm : Sm L) (hn : n ≤ 900000) (g0 : 0 ≤ id) (g1 : id < 65536) :
    Calls Tryz.prog 30 #[.agg #[.slice q n c], .int .i64 x, .agg #[.int .i64 t, .bool k, .int .u16 id], .int .i64 m] w (AsPost L' a er w) := by
  obtain ⟨W0, hW0⟩ : ∃ W, w.alloc (.cells #[.slice q n c] 24) = W := ⟨_, rfl⟩
  have hb0 := Lib.hid (one_box (xs := [.slice q n c]) hW0)
  obtain ⟨W1, hW1⟩ : ∃ W, W0.alloc (.cells #[.int .i64 t, .bool k, .int .u16 id] 30) = W := ⟨_, rfl⟩
  have hb1 := Lib.hid (one_box (xs := [.int .i64 t, .bool k, .int .u16 id]) hW1)
  obtain ⟨W, hW⟩ : ∃ W, W1.alloc (.cells #[.slice none 0 0] 24) = W := ⟨_, rfl⟩
  have hb2 := Lib.hid (one_box (xs := [.slice none 0 0]) hW)
  have hr2 : Hid (RowV 24 W W1.heap.size [.slice none 0 0]) := RowV.made' (cs := [.slice none 0 0]) hW
  have hs0 : Hid (W0.heap.size = w.heap.size + 1) := hb0.out.2.2
  have hs1 : Hid (W1.heap.size = w.heap.size + 2) := by show _ = _; have h1 := hb1.out.2.2; have h2 := hs0.out; omega
  have hs2 : Hid (W.heap.size = w.heap.size + 3) := by show _ = _; have h1 := hb2.out.2.2; have h2 := hs1.out; omega
  have hb12 := Lib.hid (below_step hb2.out.1 hb1.out.1)
  have hbW := Lib.hid (below_step hb12.out hb0.out.1)
  have x0 := Lib.hid (hb0.out.2.1.below hb12.out (Nat.le_refl _))
  have x1 := Lib.hid (hb1.out.2.1.below hb2.out.1 (Nat.le_refl _))
  have hh := Lib.hid (h.below hbW.out (Nat.le_refl _))
  have hl := Lib.hid h.len
  have s1 := sizeLks (.slice q n c)
  have s3 := sizeRes (.int .i64 t) (.bool k) (.int .u16 id)
  have sz := sizeLks (.slice none 0 0)
  have honez : ∀ y ∈ ([.slice none 0 0] : List Value), y.oneCell' = true := fun y hy => by obtain rfl := List.mem_singleton.1 hy; rfl
  have hLW : Hid (Lay W) := ⟨hL.goes hbW.out, hL.cov hbW.out⟩
  have hsm' := Lib.hid hsm
  have hn' := Lib.hid hn
  clear h hsm hL hn
  cases he
  have hfl' : ((n : Int) == 500) = false := by have := hl.out; simp; omega
  have hck := Lib.hid h1.chk.1
  have hc := Lib.hid (mayAsk_any q n c V L x t k id m 0 h1 W hLW.out hh.out hsm'.out (by have := hn'.out; omega))
  have hq := Lib.hid (fun u (hu : Below W.heap.size W u) => queueOf_any q n c V L t k id u (hh.out.below hu (Nat.le_refl _)) hck.out.sort (by have := hn'.out; omega) g0 g1)
  have hqs := Lib.hid (qOf_small hsm'.out ⟨t, k, id⟩)
  have hqr := Lib.hid (qOf_sort hck.out.sorts ⟨t, k, id⟩)
  obtain ⟨⟨⟨zx, zm, zh⟩, bb⟩, hz⟩ : ∃ z, wantE (qOf L ⟨t, k, id⟩).hs x m = z := ⟨_, rfl⟩
  rw [hz] at hd1
  obtain rfl : bb = false := hd1
  rw [hz] at hgb hcv
  simp only at hgb hcv
  rw [hz]
  clear h1
  go_enter Tryz.func30, Tryz.ntmps30
  go_wp2_with (first
    | (with_reducible refine wpList_load_at rfl 24 (.tmp 4) rfl Tryz.underlying24 rfl s1 rfl x0d.out.all ?_)
    | (with_reducible refine wpList_load_at rfl 24 (.tmp 4) rfl Tryz.underlying24 rfl s1 rfl x0c.out.all ?_)
    | (with_reducible refine wpList_load_at rfl 24 (.tmp 4) rfl Tryz.underlying24 rfl s1 rfl x0b.out.all ?_)
    | (with_reducible refine wpList_load_at rfl 24 (.tmp 4) rfl Tryz.underlying24 rfl s1 rfl x0.out.all ?_)
    | (with_reducible refine wpList_load_at rfl 30 (.tmp 6) rfl Tryz.underlying30 rfl s3 rfl x1d.out.all ?_)
    | (with_reducible refine wpList_load_at rfl 30 (.tmp 6) rfl Tryz.underlying30 rfl s3 rfl x1b.out.all ?_)
    | (with_reducible refine wpList_load_at rfl 30 (.tmp 6) rfl Tryz.underlying30 rfl s3 rfl x1.out.all ?_)
    | (go_at_call 63; refine hc.out.mono ?_; rintro e5 w2 ⟨rfl, hb2⟩; have hb3 := Lib.hid hb2; have x0b := Lib.hid (x0.out.below hb2 (Nat.le_refl _)); have x1b := Lib.hid (x1.out.below hb2 (Nat.le_refl _)); clear hb2 hW hW0 hW1)
    | (go_at_call 53
       refine (hq.out _ hb3.out).mono ?_
       rintro e7 w5 ⟨⟨⟨va, vb, vc⟩, vq, vn, vm, uq, un, um⟩, rfl, hv, hb6⟩
       rw [hT]
       have hb7 := Lib.hid (below_step hb6 hb3.out)
       obtain ⟨w6, hw6⟩ : ∃ w6, w5.alloc (.cells #[.int .i64 va, .bool vb, .int .u16 vc, .slice vq vn vm, .slice uq un um] 43) = w6 := ⟨_, rfl⟩
       have hb8 := Lib.hid (one_box (xs := [.int .i64 va, .bool vb, .int .u16 vc, .slice vq vn vm, .slice uq un um]) hw6)
       have hv6 := Lib.hid (hv.below hb8.out.1 (Nat.le_refl _))
       have s5 := sizeQue (.int .i64 va) (.bool vb) (.int .u16 vc) (.slice vq vn vm) (.slice uq un um)
       have hvn : Hid (vn ≤ 1000000) := by show _ ≤ _; have h1 : (qOf L ⟨t, k, id⟩).hs.length = vn := hv.hs.len; have h2 := hqs.out.1; omega
       have hun : Hid (un = (qOf L ⟨t, k, id⟩).ws.length) := by show _ = _; have h1 : (qOf L ⟨t, k, id⟩).ws.length = un := hv.ws.len; exact h1.symm
       have hb9 := Lib.hid (below_step hb8.out.1 hb7.out)
       have hwn := Lib.hid (wanting_any va vb vc vq vn vm uq un um _ x m ⟨zx, zm, zh⟩ false hz w6 ⟨hLW.out.goes hb9.out, hLW.out.cov hb9.out⟩ hv6.out.hs hqr.out hvn.out)
       clear hb6 hv
       simp only [QV.val_eq])
    | (with_reducible refine wpList_load_at rfl 43 (.tmp 12) rfl Tryz.underlying43 rfl s5 rfl hb8d.out.all ?_)
    | (with_reducible refine wpList_load_at rfl 43 (.tmp 12) rfl Tryz.underlying43 rfl s5 rfl hb8.out.2.1.all ?_)
    | (go_at_call 64
       refine hwn.out.mono ?_
       rintro e8 w7 ⟨rfl, hb10⟩
       obtain ⟨w8, hw8⟩ : ∃ w8, w7.alloc (.cells #[.int .i64 zx, .int .i64 zm, .int .i64 zh] 47) = w8 := ⟨_, rfl⟩
       have hb11 := Lib.hid (one_box (xs := [.int .i64 zx, .int .i64 zm, .int .i64 zh]) hw8)
       have hb12' := Lib.hid (below_step hb11.out.1 hb10)
       have hb13 := Lib.hid (below_step hb12'.out hb9.out)
       have hb8d := Lib.hid (hb8.out.2.1.below hb12'.out (Nat.le_refl _))
       have x0c := Lib.hid (x0.out.below hb13.out (Nat.le_refl _))
       have x1d := Lib.hid (x1.out.below hb13.out (Nat.le_refl _))
       have r8 := Lib.hid (hr2.out.below hb13.out)
       have s4 := sizeWait (.int .i64 zx) (.int .i64 zm) (.int .i64 zh)
       have hhs := Lib.hid (hv6.out.hs.below hb12'.out (Nat.le_refl _))
       have cl0 := x0c.out.cell 0 rfl
       have hgo := Lib.hid (goes_l_any va vb vc vq vn vm uq un um _ zx zm zh w8 (hLW.out.goes hb13.out) hhs.out hvn.out)
       rw [hgb] at hgo
       clear hb10 hw6)
    | (with_reducible refine wpList_load_at rfl 47 (.tmp 14) rfl Tryz.underlying47 rfl s4 rfl hwb2.out.all ?_)
    | (with_reducible refine wpList_load_at rfl 47 (.tmp 14) rfl Tryz.underlying47 rfl s4 rfl hb11.out.2.1.all ?_)
    | (go_at_call 66; refine hgo.out.mono ?_; rintro e9 w9 ⟨rfl, hb14⟩; have hb15 := Lib.hid hb14; have hwb2 := Lib.hid (hb11.out.2.1.below hb14 (Nat.le_refl _)); have hb16 := Lib.hid (below_step hb14 hb13.out); have x0d := Lib.hid (x0.out.below hb16.out (Nat.le_refl _)); have x1d := Lib.hid (x1.out.below hb16.out (Nat.le_refl _)); have q4 := (hb8d.out.below hb14 (Nat.le_refl _)).cell 4 rfl; have e0 := hwb2.out.cell 0 rfl; have e1 := hwb2.out.cell 1 rfl; have e2 := hwb2.out.cell 2 rfl; clear hb14 cl0)
    | (go_at_call 67; refine (converts_any zx zm zh _).mono ?_; rintro e11 w11 ⟨rfl, hb17⟩; rw [hcv]; have hb18 := Lib.hid (below_step hb17 hb16.out); have x0d := Lib.hid (x0.out.below hb18.out (Nat.le_refl _)); have x1d := Lib.hid (x1.out.below hb18.out (Nat.le_refl _)); have q4 := (hb8d.out.below (below_step hb17 hb15.out) (Nat.le_refl _)).cell 4 rfl; have hchg := Lib.hid (changed1_any _ q n c V L t k id (graD ⟨zx, zm, zh⟩) _ (hh.out.below hb18.out (Nat.le_refl _)) hsm'.out hn'.out hck.out.sort g0 g1 (do_ask1 _ L _ zx zm zh _ (hwb2.out.below hb17 (Nat.le_refl _)) hsm'.out hck.out.sorts)); clear hb17 e0 e1 e2)
    | (go_at_call 68
       refine hchg.out.mono ?_
       rintro e12 w12 ⟨q', n', c', V', rfl, k1, k2⟩
       have hk1 := Lib.hid k1
       have hk2 := Lib.hid k2
       have r12 := Lib.hid (hr2.out.below (below_step k2 hb18.out))
       have t6 := sizeLks (.slice q' n' c')
       have hone6 : ∀ y ∈ ([.slice q' n' c'] : List Value), y.oneCell' = true := fun y hy => by obtain rfl := List.mem_singleton.1 hy; rfl
       clear k1 k2)
    | ((with_reducible refine wpList_store_at rfl 24 (.tmp 8) (.tmp 66) rfl (o := 0) (vs := [.slice q' n' c']) rfl rfl r12.out t6 (Nat.le_refl _) hone6 ?_)
       intro w9 h9 hg9
       have q9 : Hid (RowV 24 w9 W1.heap.size [.slice q' n' c']) := h9
       have hg9' := Lib.hid hg9
       clear h9 hg9))
  have m0 := q9.out.cell 0
  simp only [List.getElem?_cons_zero] at m0
  have hfin : Below w.heap.size w w9 := low_step (below_step hk2.out (below_step hb18.out hbW.out)) hg9'.out (by have := hs1.out; omega)
  have hz1 := hb18.out.size
  exact bodyPost_ret (v := .tuple #[.agg #[.slice q' n' c'], .int .i64 2, .int .i64 0]) (by simp [results, Tryz.results30, go_sem, m0]) rfl ⟨q', n', c', V', rfl, (hk1.out.lp.gr hg9'.out (by have := hs1.out; have := hs2.out; omega)).mono (by have := hs2.out; omega), hfin⟩

set_option maxRecDepth 100000 in
set_option maxHeartbeats 4000000 in
theorem ask_f101 (q : Option Addr) (n c : Nat) (V : List QV) (L : List QueD) (x t : Int) (k : Bool) (id m : Int) (L' : List QueD) (a er : Int) (h1 : AskE L x ⟨t, k, id⟩ m 0) (hd1 : (wantE (qOf L ⟨t, k, id⟩).hs x m).2 = false) (hT : thereQ L ⟨t, k, id⟩ = false) (hfl : L.length ≠ 500) (hgb : goesW (qOf L ⟨t, k, id⟩).hs (wantE (qOf L ⟨t, k, id⟩).hs x m).1 = true) (hcv : convB (wantE (qOf L ⟨t, k, id⟩).hs x m).1 = false) (hub : (qOf L ⟨t, k, id⟩).ws.length = 0) (he : (chgL L ⟨t, k, id⟩ (graD (wantE (qOf L ⟨t, k, id⟩).hs x m).1), (2 : Int), (0 : Int)) = (L', a, er)) (w : World) (hL : Lay w) (h : LkOn w q n c V L) (hsm : Sm L) (hn : n ≤ 900000) (g0 : 0 ≤ id) (g1 : id < 65536) :
    Calls Tryz.prog 30 #[.agg #[.slice q n c], .int .i64 x, .agg #[.int .i64 t, .bool k, .int .u16 id], .int .i64 m] w (AsPost L' a er w) := by
  obtain ⟨W0, hW0⟩ : ∃ W, w.alloc (.cells #[.slice q n c] 24) = W := ⟨_, rfl⟩
  have hb0 := Lib.hid (one_box (xs := [.slice q n c]) hW0)
  obtain ⟨W1, hW1⟩ : ∃ W, W0.alloc (.cells #[.int .i64 t, .bool k, .int .u16 id] 30) = W := ⟨_, rfl⟩
  have hb1 := Lib.hid (one_box (xs := [.int .i64 t, .bool k, .int .u16 id]) hW1)
  obtain ⟨W, hW⟩ : ∃ W, W1.alloc (.cells #[.slice none 0 0] 24) = W := ⟨_, rfl⟩
  have hb2 := Lib.hid (one_box (xs := [.slice none 0 0]) hW)
  have hr2 : Hid (RowV 24 W W1.heap.size [.slice none 0 0]) := RowV.made' (cs := [.slice none 0 0]) hW
  have hs0 : Hid (W0.heap.size = w.heap.size + 1) := hb0.out.2.2
  have hs1 : Hid (W1.heap.size = w.heap.size + 2) := by show _ = _; have h1 := hb1.out.2.2; have h2 := hs0.out; omega
  have hs2 : Hid (W.heap.size = w.heap.size + 3) := by show _ = _; have h1 := hb2.out.2.2; have h2 := hs1.out; omega
  have hb12 := Lib.hid (below_step hb2.out.1 hb1.out.1)
  have hbW := Lib.hid (below_step hb12.out hb0.out.1)
  have x0 := Lib.hid (hb0.out.2.1.below hb12.out (Nat.le_refl _))
  have x1 := Lib.hid (hb1.out.2.1.below hb2.out.1 (Nat.le_refl _))
  have hh := Lib.hid (h.below hbW.out (Nat.le_refl _))
  have hl := Lib.hid h.len
  have s1 := sizeLks (.slice q n c)
  have s3 := sizeRes (.int .i64 t) (.bool k) (.int .u16 id)
  have sz := sizeLks (.slice none 0 0)
  have honez : ∀ y ∈ ([.slice none 0 0] : List Value), y.oneCell' = true := fun y hy => by obtain rfl := List.mem_singleton.1 hy; rfl
  have hLW : Hid (Lay W) := ⟨hL.goes hbW.out, hL.cov hbW.out⟩
  have hsm' := Lib.hid hsm
  have hn' := Lib.hid hn
  clear h hsm hL hn
  cases he
  have hfl' : ((n : Int) == 500) = false := by have := hl.out; simp; omega
  have hck := Lib.hid h1.chk.1
  have hc := Lib.hid (mayAsk_any q n c V L x t k id m 0 h1 W hLW.out hh.out hsm'.out (by have := hn'.out; omega))
  have hq := Lib.hid (fun u (hu : Below W.heap.size W u) => queueOf_any q n c V L t k id u (hh.out.below hu (Nat.le_refl _)) hck.out.sort (by have := hn'.out; omega) g0 g1)
  have hqs := Lib.hid (qOf_small hsm'.out ⟨t, k, id⟩)
  have hqr := Lib.hid (qOf_sort hck.out.sorts ⟨t, k, id⟩)
  obtain ⟨⟨⟨zx, zm, zh⟩, bb⟩, hz⟩ : ∃ z, wantE (qOf L ⟨t, k, id⟩).hs x m = z := ⟨_, rfl⟩
  rw [hz] at hd1
  obtain rfl : bb = false := hd1
  rw [hz] at hgb hcv
  simp only at hgb hcv
  rw [hz]
  clear h1
  go_enter Tryz.func30, Tryz.ntmps30
  go_wp2_with (first
    | (with_reducible refine wpList_load_at rfl 24 (.tmp 4) rfl Tryz.underlying24 rfl s1 rfl x0d.out.all ?_)
    | (with_reducible refine wpList_load_at rfl 24 (.tmp 4) rfl Tryz.underlying24 rfl s1 rfl x0c.out.all ?_)
    | (with_reducible refine wpList_load_at rfl 24 (.tmp 4) rfl Tryz.underlying24 rfl s1 rfl x0b.out.all ?_)
    | (with_reducible refine wpList_load_at rfl 24 (.tmp 4) rfl Tryz.underlying24 rfl s1 rfl x0.out.all ?_)
    | (with_reducible refine wpList_load_at rfl 30 (.tmp 6) rfl Tryz.underlying30 rfl s3 rfl x1d.out.all ?_)
    | (with_reducible refine wpList_load_at rfl 30 (.tmp 6) rfl Tryz.underlying30 rfl s3 rfl x1b.out.all ?_)
    | (with_reducible refine wpList_load_at rfl 30 (.tmp 6) rfl Tryz.underlying30 rfl s3 rfl x1.out.all ?_)
    | (go_at_call 63; refine hc.out.mono ?_; rintro e5 w2 ⟨rfl, hb2⟩; have hb3 := Lib.hid hb2; have x0b := Lib.hid (x0.out.below hb2 (Nat.le_refl _)); have x1b := Lib.hid (x1.out.below hb2 (Nat.le_refl _)); clear hb2 hW hW0 hW1)
    | (go_at_call 53
       refine (hq.out _ hb3.out).mono ?_
       rintro e7 w5 ⟨⟨⟨va, vb, vc⟩, vq, vn, vm, uq, un, um⟩, rfl, hv, hb6⟩
       rw [hT]
       have hb7 := Lib.hid (below_step hb6 hb3.out)
       obtain ⟨w6, hw6⟩ : ∃ w6, w5.alloc (.cells #[.int .i64 va, .bool vb, .int .u16 vc, .slice vq vn vm, .slice uq un um] 43) = w6 := ⟨_, rfl⟩
       have hb8 := Lib.hid (one_box (xs := [.int .i64 va, .bool vb, .int .u16 vc, .slice vq vn vm, .slice uq un um]) hw6)
       have hv6 := Lib.hid (hv.below hb8.out.1 (Nat.le_refl _))
       have s5 := sizeQue (.int .i64 va) (.bool vb) (.int .u16 vc) (.slice vq vn vm) (.slice uq un um)
       have hvn : Hid (vn ≤ 1000000) := by show _ ≤ _; have h1 : (qOf L ⟨t, k, id⟩).hs.length = vn := hv.hs.len; have h2 := hqs.out.1; omega
       have hun : Hid (un = (qOf L ⟨t, k, id⟩).ws.length) := by show _ = _; have h1 : (qOf L ⟨t, k, id⟩).ws.length = un := hv.ws.len; exact h1.symm
       have hb9 := Lib.hid (below_step hb8.out.1 hb7.out)
       have hwn := Lib.hid (wanting_any va vb vc vq vn vm uq un um _ x m ⟨zx, zm, zh⟩ false hz w6 ⟨hLW.out.goes hb9.out, hLW.out.cov hb9.out⟩ hv6.out.hs hqr.out hvn.out)
       clear hb6 hv
       simp only [QV.val_eq])
    | (with_reducible refine wpList_load_at rfl 43 (.tmp 12) rfl Tryz.underlying43 rfl s5 rfl hb8d.out.all ?_)
    | (with_reducible refine wpList_load_at rfl 43 (.tmp 12) rfl Tryz.underlying43 rfl s5 rfl hb8.out.2.1.all ?_)
    | (go_at_call 64
       refine hwn.out.mono ?_
       rintro e8 w7 ⟨rfl, hb10⟩
       obtain ⟨w8, hw8⟩ : ∃ w8, w7.alloc (.cells #[.int .i64 zx, .int .i64 zm, .int .i64 zh] 47) = w8 := ⟨_, rfl⟩
       have hb11 := Lib.hid (one_box (xs := [.int .i64 zx, .int .i64 zm, .int .i64 zh]) hw8)
       have hb12' := Lib.hid (below_step hb11.out.1 hb10)
       have hb13 := Lib.hid (below_step hb12'.out hb9.out)
       have hb8d := Lib.hid (hb8.out.2.1.below hb12'.out (Nat.le_refl _))
       have x0c := Lib.hid (x0.out.below hb13.out (Nat.le_refl _))
       have x1d := Lib.hid (x1.out.below hb13.out (Nat.le_refl _))
       have r8 := Lib.hid (hr2.out.below hb13.out)
       have s4 := sizeWait (.int .i64 zx) (.int .i64 zm) (.int .i64 zh)
       have hhs := Lib.hid (hv6.out.hs.below hb12'.out (Nat.le_refl _))
       have cl0 := x0c.out.cell 0 rfl
       have hgo := Lib.hid (goes_l_any va vb vc vq vn vm uq un um _ zx zm zh w8 (hLW.out.goes hb13.out) hhs.out hvn.out)
       rw [hgb] at hgo
       have hub' : ((un : Int) == 0) = true := by have := hun.out; simp; omega
       clear hb10 hw6)
    | (with_reducible refine wpList_load_at rfl 47 (.tmp 14) rfl Tryz.underlying47 rfl s4 rfl hwb2.out.all ?_)
    | (with_reducible refine wpList_load_at rfl 47 (.tmp 14) rfl Tryz.underlying47 rfl s4 rfl hb11.out.2.1.all ?_)
    | (go_at_call 66; refine hgo.out.mono ?_; rintro e9 w9 ⟨rfl, hb14⟩; have hb15 := Lib.hid hb14; have hwb2 := Lib.hid (hb11.out.2.1.below hb14 (Nat.le_refl _)); have hb16 := Lib.hid (below_step hb14 hb13.out); have x0d := Lib.hid (x0.out.below hb16.out (Nat.le_refl _)); have x1d := Lib.hid (x1.out.below hb16.out (Nat.le_refl _)); have q4 := (hb8d.out.below hb14 (Nat.le_refl _)).cell 4 rfl; have e0 := hwb2.out.cell 0 rfl; have e1 := hwb2.out.cell 1 rfl; have e2 := hwb2.out.cell 2 rfl; clear hb14 cl0)
    | (go_at_call 67; refine (converts_any zx zm zh _).mono ?_; rintro e11 w11 ⟨rfl, hb17⟩; rw [hcv]; have hb18 := Lib.hid (below_step hb17 hb16.out); have x0d := Lib.hid (x0.out.below hb18.out (Nat.le_refl _)); have x1d := Lib.hid (x1.out.below hb18.out (Nat.le_refl _)); have q4 := (hb8d.out.below (below_step hb17 hb15.out) (Nat.le_refl _)).cell 4 rfl; have hchg := Lib.hid (changed1_any _ q n c V L t k id (graD ⟨zx, zm, zh⟩) _ (hh.out.below hb18.out (Nat.le_refl _)) hsm'.out hn'.out hck.out.sort g0 g1 (do_ask1 _ L _ zx zm zh _ (hwb2.out.below hb17 (Nat.le_refl _)) hsm'.out hck.out.sorts)); clear hb17 e0 e1 e2)
    | (go_at_call 68
       refine hchg.out.mono ?_
       rintro e12 w12 ⟨q', n', c', V', rfl, k1, k2⟩
       have hk1 := Lib.hid k1
       have hk2 := Lib.hid k2
       have r12 := Lib.hid (hr2.out.below (below_step k2 hb18.out))
       have t6 := sizeLks (.slice q' n' c')
       have hone6 : ∀ y ∈ ([.slice q' n' c'] : List Value), y.oneCell' = true := fun y hy => by obtain rfl := List.mem_singleton.1 hy; rfl
       clear k1 k2)
    | ((with_reducible refine wpList_store_at rfl 24 (.tmp 8) (.tmp 66) rfl (o := 0) (vs := [.slice q' n' c']) rfl rfl r12.out t6 (Nat.le_refl _) hone6 ?_)
       intro w9 h9 hg9
       have q9 : Hid (RowV 24 w9 W1.heap.size [.slice q' n' c']) := h9
       have hg9' := Lib.hid hg9
       clear h9 hg9))
  have m0 := q9.out.cell 0
  simp only [List.getElem?_cons_zero] at m0
  have hfin : Below w.heap.size w w9 := low_step (below_step hk2.out (below_step hb18.out hbW.out)) hg9'.out (by have := hs1.out; omega)
  have hz1 := hb18.out.size
  exact bodyPost_ret (v := .tuple #[.agg #[.slice q' n' c'], .int .i64 2, .int .i64 0]) (by simp [results, Tryz.results30, go_sem, m0]) rfl ⟨q', n', c', V', rfl, (hk1.out.lp.gr hg9'.out (by have := hs1.out; have := hs2.out; omega)).mono (by have := hs2.out; omega), hfin⟩

set_option maxRecDepth 100000 in
set_option maxHeartbeats 4000000 in
theorem ask_f100 (q : Option Addr) (n c : Nat) (V : List QV) (L : List QueD) (x t : Int) (k : Bool) (id m : Int) (L' : List QueD) (a er : Int) (h1 : AskE L x ⟨t, k, id⟩ m 0) (hd1 : (wantE (qOf L ⟨t, k, id⟩).hs x m).2 = false) (hT : thereQ L ⟨t, k, id⟩ = false) (hfl : L.length ≠ 500) (hgb : goesW (qOf L ⟨t, k, id⟩).hs (wantE (qOf L ⟨t, k, id⟩).hs x m).1 = true) (hcv : convB (wantE (qOf L ⟨t, k, id⟩).hs x m).1 = false) (hub : (qOf L ⟨t, k, id⟩).ws.length ≠ 0) (he : (chgL L ⟨t, k, id⟩ (linD (wantE (qOf L ⟨t, k, id⟩).hs x m).1), (3 : Int), (0 : Int)) = (L', a, er)) (w : World) (hL : Lay w) (h : LkOn w q n c V L) (hsm : Sm L) (hn : n ≤ 900000) (g0 : 0 ≤ id) (g1 : id < 65536) :
    Calls Tryz.prog 30 #[.agg #[.slice q n c], .int .i64 x, .agg #[.int .i64 t, .bool k, .int .u16 id], .int .i64 m] w (AsPost L' a er w) := by
  obtain ⟨W0, hW0⟩ : ∃ W, w.alloc (.cells #[.slice q n c] 24) = W := ⟨_, rfl⟩
  have hb0 := Lib.hid (one_box (xs := [.slice q n c]) hW0)
  obtain ⟨W1, hW1⟩ : ∃ W, W0.alloc (.cells #[.int .i64 t, .bool k, .int .u16 id] 30) = W := ⟨_, rfl⟩
  have hb1 := Lib.hid (one_box (xs := [.int .i64 t, .bool k, .int .u16 id]) hW1)
  obtain ⟨W, hW⟩ : ∃ W, W1.alloc (.cells #[.slice none 0 0] 24) = W := ⟨_, rfl⟩
  have hb2 := Lib.hid (one_box (xs := [.slice none 0 0]) hW)
  have hr2 : Hid (RowV 24 W W1.heap.size [.slice none 0 0]) := RowV.made' (cs := [.slice none 0 0]) hW
  have hs0 : Hid (W0.heap.size = w.heap.size + 1) := hb0.out.2.2
  have hs1 : Hid (W1.heap.size = w.heap.size + 2) := by show _ = _; have h1 := hb1.out.2.2; have h2 := hs0.out; omega
  have hs2 : Hid (W.heap.size = w.heap.size + 3) := by show _ = _; have h1 := hb2.out.2.2; have h2 := hs1.out; omega
  have hb12 := Lib.hid (below_step hb2.out.1 hb1.out.1)
  have hbW := Lib.hid (below_step hb12.out hb0.out.1)
  have x0 := Lib.hid (hb0.out.2.1.below hb12.out (Nat.le_refl _))
  have x1 := Lib.hid (hb1.out.2.1.below hb2.out.1 (Nat.le_refl _))
  have hh := Lib.hid (h.below hbW.out (Nat.le_refl _))
  have hl := Lib.hid h.len
  have s1 := sizeLks (.slice q n c)
  have s3 := sizeRes (.int .i64 t) (.bool k) (.int .u16 id)
  have sz := sizeLks (.slice none 0 0)
  have honez : ∀ y ∈ ([.slice none 0 0] : List Value), y.oneCell' = true := fun y hy => by obtain rfl := List.mem_singleton.1 hy; rfl
  have hLW : Hid (Lay W) := ⟨hL.goes hbW.out, hL.cov hbW.out⟩
  have hsm' := Lib.hid hsm
  have hn' := Lib.hid hn
  clear h hsm hL hn
  cases he
  have hfl' : ((n : Int) == 500) = false := by have := hl.out; simp; omega
  have hck := Lib.hid h1.chk.1
  have hc := Lib.hid (mayAsk_any q n c V L x t k id m 0 h1 W hLW.out hh.out hsm'.out (by have := hn'.out; omega))
  have hq := Lib.hid (fun u (hu : Below W.heap.size W u) => queueOf_any q n c V L t k id u (hh.out.below hu (Nat.le_refl _)) hck.out.sort (by have := hn'.out; omega) g0 g1)
  have hqs := Lib.hid (qOf_small hsm'.out ⟨t, k, id⟩)
  have hqr := Lib.hid (qOf_sort hck.out.sorts ⟨t, k, id⟩)
  obtain ⟨⟨⟨zx, zm, zh⟩, bb⟩, hz⟩ : ∃ z, wantE (qOf L ⟨t, k, id⟩).hs x m = z := ⟨_, rfl⟩
  rw [hz] at hd1
  obtain rfl : bb = false := hd1
  rw [hz] at hgb hcv
  simp only at hgb hcv
  rw [hz]
  clear h1
  go_enter Tryz.func30, Tryz.ntmps30
  go_wp2_with (first
    | (with_reducible refine wpList_load_at rfl 24 (.tmp 4) rfl Tryz.underlying24 rfl s1 rfl x0d.out.all ?_)
    | (with_reducible refine wpList_load_at rfl 24 (.tmp 4) rfl Tryz.underlying24 rfl s1 rfl x0c.out.all ?_)
    | (with_reducible refine wpList_load_at rfl 24 (.tmp 4) rfl Tryz.underlying24 rfl s1 rfl x0b.out.all ?_)
    | (with_reducible refine wpList_load_at rfl 24 (.tmp 4) rfl Tryz.underlying24 rfl s1 rfl x0.out.all ?_)
    | (with_reducible refine wpList_load_at rfl 30 (.tmp 6) rfl Tryz.underlying30 rfl s3 rfl x1d.out.all ?_)
    | (with_reducible refine wpList_load_at rfl 30 (.tmp 6) rfl Tryz.underlying30 rfl s3 rfl x1b.out.all ?_)
    | (with_reducible refine wpList_load_at rfl 30 (.tmp 6) rfl Tryz.underlying30 rfl s3 rfl x1.out.all ?_)
    | (go_at_call 63; refine hc.out.mono ?_; rintro e5 w2 ⟨rfl, hb2⟩; have hb3 := Lib.hid hb2; have x0b := Lib.hid (x0.out.below hb2 (Nat.le_refl _)); have x1b := Lib.hid (x1.out.below hb2 (Nat.le_refl _)); clear hb2 hW hW0 hW1)
    | (go_at_call 53
       refine (hq.out _ hb3.out).mono ?_
       rintro e7 w5 ⟨⟨⟨va, vb, vc⟩, vq, vn, vm, uq, un, um⟩, rfl, hv, hb6⟩
       rw [hT]
       have hb7 := Lib.hid (below_step hb6 hb3.out)
       obtain ⟨w6, hw6⟩ : ∃ w6, w5.alloc (.cells #[.int .i64 va, .bool vb, .int .u16 vc, .slice vq vn vm, .slice uq un um] 43) = w6 := ⟨_, rfl⟩
       have hb8 := Lib.hid (one_box (xs := [.int .i64 va, .bool vb, .int .u16 vc, .slice vq vn vm, .slice uq un um]) hw6)
       have hv6 := Lib.hid (hv.below hb8.out.1 (Nat.le_refl _))
       have s5 := sizeQue (.int .i64 va) (.bool vb) (.int .u16 vc) (.slice vq vn vm) (.slice uq un um)
       have hvn : Hid (vn ≤ 1000000) := by show _ ≤ _; have h1 : (qOf L ⟨t, k, id⟩).hs.length = vn := hv.hs.len; have h2 := hqs.out.1; omega
       have hun : Hid (un = (qOf L ⟨t, k, id⟩).ws.length) := by show _ = _; have h1 : (qOf L ⟨t, k, id⟩).ws.length = un := hv.ws.len; exact h1.symm
       have hb9 := Lib.hid (below_step hb8.out.1 hb7.out)
       have hwn := Lib.hid (wanting_any va vb vc vq vn vm uq un um _ x m ⟨zx, zm, zh⟩ false hz w6 ⟨hLW.out.goes hb9.out, hLW.out.cov hb9.out⟩ hv6.out.hs hqr.out hvn.out)
       clear hb6 hv
       simp only [QV.val_eq])
    | (with_reducible refine wpList_load_at rfl 43 (.tmp 12) rfl Tryz.underlying43 rfl s5 rfl hb8d.out.all ?_)
    | (with_reducible refine wpList_load_at rfl 43 (.tmp 12) rfl Tryz.underlying43 rfl s5 rfl hb8.out.2.1.all ?_)
    | (go_at_call 64
       refine hwn.out.mono ?_
       rintro e8 w7 ⟨rfl, hb10⟩
       obtain ⟨w8, hw8⟩ : ∃ w8, w7.alloc (.cells #[.int .i64 zx, .int .i64 zm, .int .i64 zh] 47) = w8 := ⟨_, rfl⟩
       have hb11 := Lib.hid (one_box (xs := [.int .i64 zx, .int .i64 zm, .int .i64 zh]) hw8)
       have hb12' := Lib.hid (below_step hb11.out.1 hb10)
       have hb13 := Lib.hid (below_step hb12'.out hb9.out)
       have hb8d := Lib.hid (hb8.out.2.1.below hb12'.out (Nat.le_refl _))
       have x0c := Lib.hid (x0.out.below hb13.out (Nat.le_refl _))
       have x1d := Lib.hid (x1.out.below hb13.out (Nat.le_refl _))
       have r8 := Lib.hid (hr2.out.below hb13.out)
       have s4 := sizeWait (.int .i64 zx) (.int .i64 zm) (.int .i64 zh)
       have hhs := Lib.hid (hv6.out.hs.below hb12'.out (Nat.le_refl _))
       have cl0 := x0c.out.cell 0 rfl
       have hgo := Lib.hid (goes_l_any va vb vc vq vn vm uq un um _ zx zm zh w8 (hLW.out.goes hb13.out) hhs.out hvn.out)
       rw [hgb] at hgo
       have hub' : ((un : Int) == 0) = false := by have := hun.out; simp; omega
       clear hb10 hw6)
    | (with_reducible refine wpList_load_at rfl 47 (.tmp 14) rfl Tryz.underlying47 rfl s4 rfl hwb2.out.all ?_)
    | (with_reducible refine wpList_load_at rfl 47 (.tmp 14) rfl Tryz.underlying47 rfl s4 rfl hb11.out.2.1.all ?_)
    | (go_at_call 66; refine hgo.out.mono ?_; rintro e9 w9 ⟨rfl, hb14⟩; have hb15 := Lib.hid hb14; have hwb2 := Lib.hid (hb11.out.2.1.below hb14 (Nat.le_refl _)); have hb16 := Lib.hid (below_step hb14 hb13.out); have x0d := Lib.hid (x0.out.below hb16.out (Nat.le_refl _)); have x1d := Lib.hid (x1.out.below hb16.out (Nat.le_refl _)); have q4 := (hb8d.out.below hb14 (Nat.le_refl _)).cell 4 rfl; have e0 := hwb2.out.cell 0 rfl; have e1 := hwb2.out.cell 1 rfl; have e2 := hwb2.out.cell 2 rfl; clear hb14 cl0)
    | (go_at_call 67; refine (converts_any zx zm zh _).mono ?_; rintro e11 w11 ⟨rfl, hb17⟩; rw [hcv]; have hb18 := Lib.hid (below_step hb17 hb16.out); have x0d := Lib.hid (x0.out.below hb18.out (Nat.le_refl _)); have x1d := Lib.hid (x1.out.below hb18.out (Nat.le_refl _)); have q4 := (hb8d.out.below (below_step hb17 hb15.out) (Nat.le_refl _)).cell 4 rfl; have hchg := Lib.hid (changed2_any _ q n c V L t k id (linD ⟨zx, zm, zh⟩) _ (hh.out.below hb18.out (Nat.le_refl _)) hsm'.out hn'.out hck.out.sort g0 g1 (do_ask2 _ L _ zx zm zh _ (hwb2.out.below hb17 (Nat.le_refl _)) hsm'.out hck.out.ords)); clear hb17 e0 e1 e2)
    | (go_at_call 68
       refine hchg.out.mono ?_
       rintro e12 w12 ⟨q', n', c', V', rfl, k1, k2⟩
       have hk1 := Lib.hid k1
       have hk2 := Lib.hid k2
       have r12 := Lib.hid (hr2.out.below (below_step k2 hb18.out))
       have t6 := sizeLks (.slice q' n' c')
       have hone6 : ∀ y ∈ ([.slice q' n' c'] : List Value), y.oneCell' = true := fun y hy => by obtain rfl := List.mem_singleton.1 hy; rfl
       clear k1 k2)
    | ((with_reducible refine wpList_store_at rfl 24 (.tmp 8) (.tmp 70) rfl (o := 0) (vs := [.slice q' n' c']) rfl rfl r12.out t6 (Nat.le_refl _) hone6 ?_)
       intro w9 h9 hg9
       have q9 : Hid (RowV 24 w9 W1.heap.size [.slice q' n' c']) := h9
       have hg9' := Lib.hid hg9
       clear h9 hg9))
  have m0 := q9.out.cell 0
  simp only [List.getElem?_cons_zero] at m0
  have hfin : Below w.heap.size w w9 := low_step (below_step hk2.out (below_step hb18.out hbW.out)) hg9'.out (by have := hs1.out; omega)
  have hz1 := hb18.out.size
  exact bodyPost_ret (v := .tuple #[.agg #[.slice q' n' c'], .int .i64 3, .int .i64 0]) (by simp [results, Tryz.results30, go_sem, m0]) rfl ⟨q', n', c', V', rfl, (hk1.out.lp.gr hg9'.out (by have := hs1.out; have := hs2.out; omega)).mono (by have := hs2.out; omega), hfin⟩

theorem ask_any (q : Option Addr) (n c : Nat) (V : List QV) (L : List QueD) (x t : Int) (k : Bool) (id m : Int) (L' : List QueD) (a er : Int) (he : AskR L x ⟨t, k, id⟩ m L' a er) (w : World) (hL : Lay w) (h : LkOn w q n c V L) (hsm : Sm L) (hn : n ≤ 900000) (g0 : 0 ≤ id) (g1 : id < 65536) :
    Calls Tryz.prog 30 #[.agg #[.slice q n c], .int .i64 x, .agg #[.int .i64 t, .bool k, .int .u16 id], .int .i64 m] w (AsPost L' a er w) := by
  rcases he with he | ⟨h1, he⟩
  · exact ask_err q n c V L x t k id m L' a er he w hL h hsm hn
  · unfold askF at he
    by_cases hd : (wantE (qOf L ⟨t, k, id⟩).hs x m).2 = true
    · rw [if_pos hd] at he
      exact ask_had q n c V L x t k id m L' a er h1 hd he w hL h hsm hn g0 g1
    · rw [if_neg hd] at he
      have hd' : (wantE (qOf L ⟨t, k, id⟩).hs x m).2 = false := by simpa using hd
      by_cases hf : thereQ L ⟨t, k, id⟩ = false ∧ L.length = 500
      · rw [if_pos hf] at he
        exact ask_full q n c V L x t k id m L' a er h1 hd' hf.1 hf.2 he w hL h hsm hn g0 g1
      · rw [if_neg hf] at he
        cases hT : thereQ L ⟨t, k, id⟩ with
        | true =>
          cases hg : goesW (qOf L ⟨t, k, id⟩).hs (wantE (qOf L ⟨t, k, id⟩).hs x m).1 with
          | false =>
            rw [if_neg (by rw [hg]; exact fun h => absurd h.1 (by decide))] at he
            exact ask_t000 q n c V L x t k id m L' a er h1 hd' hT hg he w hL h hsm hn g0 g1
          | true =>
            cases hc : convB (wantE (qOf L ⟨t, k, id⟩).hs x m).1 with
            | true =>
              rw [if_pos ⟨hg, .inl hc⟩] at he
              exact ask_t110 q n c V L x t k id m L' a er h1 hd' hT hg hc he w hL h hsm hn g0 g1
            | false =>
              by_cases hu : (qOf L ⟨t, k, id⟩).ws.length = 0
              · rw [if_pos ⟨hg, .inr hu⟩] at he
                exact ask_t101 q n c V L x t k id m L' a er h1 hd' hT hg hc hu he w hL h hsm hn g0 g1
              · rw [if_neg (by rw [hc]; exact fun h => h.2.elim (fun e => absurd e (by decide)) hu)] at he
                exact ask_t100 q n c V L x t k id m L' a er h1 hd' hT hg hc hu he w hL h hsm hn g0 g1
        | false =>
          have hfl : L.length ≠ 500 := fun e => hf ⟨hT, e⟩
          cases hg : goesW (qOf L ⟨t, k, id⟩).hs (wantE (qOf L ⟨t, k, id⟩).hs x m).1 with
          | false =>
            rw [if_neg (by rw [hg]; exact fun h => absurd h.1 (by decide))] at he
            exact ask_f000 q n c V L x t k id m L' a er h1 hd' hT hfl hg he w hL h hsm hn g0 g1
          | true =>
            cases hc : convB (wantE (qOf L ⟨t, k, id⟩).hs x m).1 with
            | true =>
              rw [if_pos ⟨hg, .inl hc⟩] at he
              exact ask_f110 q n c V L x t k id m L' a er h1 hd' hT hfl hg hc he w hL h hsm hn g0 g1
            | false =>
              by_cases hu : (qOf L ⟨t, k, id⟩).ws.length = 0
              · rw [if_pos ⟨hg, .inr hu⟩] at he
                exact ask_f101 q n c V L x t k id m L' a er h1 hd' hT hfl hg hc hu he w hL h hsm hn g0 g1
              · rw [if_neg (by rw [hc]; exact fun h => h.2.elim (fun e => absurd e (by decide)) hu)] at he
                exact ask_f100 q n c V L x t k id m L' a er h1 hd' hT hfl hg hc hu he w hL h hsm hn g0 g1
end Go.Proofs.YtbgpppbcffpdbaaGreatDoor
