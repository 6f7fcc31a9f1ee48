/- Page: its size, its room, whether it may be, holds anything, is full, is small; what is asked of it. -/
import Derived.Test.YtaiepdhmlmnggaaPMth
import Derived.Test.YtaiepdhmlmnggaaPFx
import Derived.Test.YtaiepdhmlmnggaaKOpn
namespace Go.Proofs.Ytaiepdhmlmnggaa
open Go.RowKit

structure CV where
  k : Int
  rq : Option Addr
  rn : Nat
  rc : Nat
  kq : Option Addr
  kn : Nat
  kc : Nat
abbrev CV.val (v : CV) : Value := .agg #[.int .i64 v.k, .slice v.rq v.rn v.rc, .slice v.kq v.kn v.kc]
def CV.On (v : CV) (w : World) (c : ContD) : Prop := ContOn w v.k v.rq v.rn v.rc v.kq v.kn v.kc c
theorem CV.On.below {B : Nat} {w w' : World} {v : CV} {c : ContD} (h : v.On w c) (hb : Below B w w') (hB : w.heap.size ≤ B) : v.On w' c := ContOn.below h hb hB
theorem CV.On.rl {w : World} {v : CV} {c : ContD} (h : v.On w c) : c.rows.length = v.rn := h.rows.len
theorem CV.On.kl {w : World} {v : CV} {c : ContD} (h : v.On w c) : c.kids.length = v.kn := h.kids.len
theorem CV.On.sm {w : World} {v : CV} {c : ContD} (h : v.On w c) : v.rn ≤ maxLen ∧ v.kn ≤ maxLen := ⟨Nat.le_trans h.rows.le h.rows.cap, Nat.le_trans h.kids.le h.kids.cap⟩
theorem bool_of (p : Prop) : ∃ b : Bool, (b = true ↔ p) := by
  by_cases h : p
  · exact ⟨true, by simp [h]⟩
  · exact ⟨false, by simp [h]⟩
theorem b_false {b : Bool} {p : Prop} (h : b = true ↔ p) (hp : ¬ p) : b = false := by
  cases b
  · rfl
  · exact absurd (h.1 rfl) hp

theorem good_size {c : ContD} (h : GoodC c) : sizeC c ≤ 4 := by
  unfold sizeC
  rcases h with ⟨_, h1, h2⟩ | ⟨_, h1, h2⟩ | ⟨_, h1, h2⟩
  · rw [h1, h2]; simp
  · rw [h2]; have := h1.len; simp; omega
  · rw [h2]; have := h1.len; simp; omega

set_option maxRecDepth 100000 in
set_option maxHeartbeats 1000000 in
theorem psize_any (v : CV) (c : ContD) (w : World) (h : v.On w c) (hsm : sizeC c ≤ 1000000) :
    Calls Try.prog 42 #[v.val] w (fun e w' => e = .returned (.int .i64 ((sizeC c : Nat) : Int)) ∧ Below w.heap.size w w') := by
  obtain ⟨k, rq, rn, rc, kq, kn, kc⟩ := v
  have h2 : (sizeC c : Int) = (rn : Int) + kn := by
    have a := h.rl
    have b := h.kl
    simp only at a b
    unfold sizeC; omega
  rw [h2]
  obtain ⟨W, hW⟩ : ∃ W, w.alloc (.cells #[.int .i64 k, .slice rq rn rc, .slice kq kn kc] 25) = W := ⟨_, rfl⟩
  have hbx := Lib.hid (one_box (xs := [.int .i64 k, .slice rq rn rc, .slice kq kn kc]) hW)
  have c1 := hbx.out.2.1.cell 1 rfl
  have c2 := hbx.out.2.1.cell 2 rfl
  have e1 : IntKind.i64.wrap ((rn : Int) + kn) = (rn : Int) + kn := IntWalk.i64_in _ (by omega)
  clear h h2
  show Calls _ _ #[.agg #[.int .i64 k, .slice rq rn rc, .slice kq kn kc]] _ _
  go_enter Try.func42, Try.ntmps42
  go_wp2
  go_ret
  exact ⟨by first | rfl | rw [e1] | simp [e1], hbx.out.1⟩

set_option maxRecDepth 100000 in
set_option maxHeartbeats 1000000 in
theorem room_any (v : CV) (w : World) :
    Calls Try.prog 44 #[v.val] w (fun e w' => e = .returned (.int .i64 4) ∧ Below w.heap.size w w') := by
  obtain ⟨k, rq, rn, rc, kq, kn, kc⟩ := v
  obtain ⟨W, hW⟩ : ∃ W, w.alloc (.cells #[.int .i64 k, .slice rq rn rc, .slice kq kn kc] 25) = W := ⟨_, rfl⟩
  have hbx := Lib.hid (one_box (xs := [.int .i64 k, .slice rq rn rc, .slice kq kn kc]) hW)
  have c0 := hbx.out.2.1.cell 0 rfl
  show Calls _ _ #[.agg #[.int .i64 k, .slice rq rn rc, .slice kq kn kc]] _ _
  by_cases hk : k = 1
  · have hk0 : (k == 1) = true := by simpa using hk
    clear hk
    go_enter Try.func44, Try.ntmps44
    go_wp2
    go_ret
    exact ⟨rfl, hbx.out.1⟩
  · have hk0 : (k == 1) = false := by simpa using hk
    go_enter Try.func44, Try.ntmps44
    go_wp2
    go_ret
    exact ⟨rfl, hbx.out.1⟩

set_option maxRecDepth 100000 in
set_option maxHeartbeats 1000000 in
theorem mayBe_any (v : CV) (c : ContD) (b : Bool) (hb : b = true ↔ GoodC c) (w : World) (h : v.On w c) :
    Calls Try.prog 41 #[v.val] w (fun e w' => e = .returned (.bool b) ∧ Below w.heap.size w w') := by
  obtain ⟨k, rq, rn, rc, kq, kn, kc⟩ := v
  obtain ⟨W, hW⟩ : ∃ W, w.alloc (.cells #[.int .i64 k, .slice rq rn rc, .slice kq kn kc] 25) = W := ⟨_, rfl⟩
  have hbx := Lib.hid (one_box (xs := [.int .i64 k, .slice rq rn rc, .slice kq kn kc]) hW)
  have hs := sizeCont (.int .i64 k) (.slice rq rn rc) (.slice kq kn kc)
  have hchk := Lib.hid (check_any k rq rn rc kq kn kc c W (ContOn.below h hbx.out.1 (Nat.le_refl _)))
  have hb' := Lib.hid hb
  clear h hb
  show Calls _ _ #[.agg #[.int .i64 k, .slice rq rn rc, .slice kq kn kc]] _ _
  go_enter Try.func41, Try.ntmps41
  go_wp2_with (first
    | (with_reducible refine wpList_load_at rfl 25 (.tmp 1) rfl Try.underlying25 rfl hs rfl hbx.out.2.1.all ?_))
  refine hchk.out.mono ?_
  clear hchk hW
  rintro e w1 ⟨x, rfl, hx, hb1⟩
  have hd := Lib.hid (hbx.out.1.trans (hb1.mono hbx.out.1.size))
  clear hb1
  rcases hx with ⟨rfl, hg⟩ | ⟨rfl, hg⟩
  · obtain rfl : b = true := hb'.out.2 hg
    go_wp2
    go_ret
    exact ⟨rfl, hd.out⟩
  · obtain rfl : b = false := b_false hb'.out hg
    go_wp2
    go_ret
    exact ⟨rfl, hd.out⟩

set_option maxRecDepth 100000 in
set_option maxHeartbeats 1000000 in
theorem holds_any (v : CV) (c : ContD) (b : Bool) (hb : b = true ↔ GoodC c ∧ c.kind ≠ 0) (w : World) (h : v.On w c) :
    Calls Try.prog 43 #[v.val] w (fun e w' => e = .returned (.bool b) ∧ Below w.heap.size w w') := by
  obtain ⟨g, hg⟩ := bool_of (GoodC c)
  have hmb := Lib.hid (fun u (hu : Below w.heap.size w u) => mayBe_any v c g hg u (h.below hu (Nat.le_refl _)))
  have hkd : v.k = c.kind := h.kind
  obtain ⟨k, rq, rn, rc, kq, kn, kc⟩ := v
  simp only at hkd
  have hkd' := Lib.hid hkd
  obtain ⟨W, hW⟩ : ∃ W, w.alloc (.cells #[.int .i64 k, .slice rq rn rc, .slice kq kn kc] 25) = W := ⟨_, rfl⟩
  have hbx := Lib.hid (one_box (xs := [.int .i64 k, .slice rq rn rc, .slice kq kn kc]) hW)
  have hs := sizeCont (.int .i64 k) (.slice rq rn rc) (.slice kq kn kc)
  have hb' := Lib.hid hb
  have hg' := Lib.hid hg
  clear h hb hg hkd
  show Calls _ _ #[.agg #[.int .i64 k, .slice rq rn rc, .slice kq kn kc]] _ _
  go_enter Try.func43, Try.ntmps43
  go_wp2_with (first
    | (with_reducible refine wpList_load_at rfl 25 (.tmp 1) rfl Try.underlying25 rfl hs rfl hbx.out.2.1.all ?_))
  refine (hmb.out W hbx.out.1).mono ?_
  clear hmb hW
  rintro e w1 ⟨rfl, hb1⟩
  have hd := Lib.hid (hbx.out.1.trans (hb1.mono hbx.out.1.size))
  have c0 := (hbx.out.2.1.below hb1 (Nat.le_refl _)).cell 0 rfl
  clear hb1
  cases g with
  | false =>
    obtain rfl : b = false := b_false hb'.out (fun h => by have := hg'.out.2 h.1; cases this)
    go_wp2
    go_ret
    exact ⟨rfl, hd.out⟩
  | true =>
    by_cases hk : k = 0
    · obtain rfl : b = false := b_false hb'.out (fun h => h.2 (by rw [← hkd'.out]; exact hk))
      have hk0 : (k != 0) = false := by simpa using hk
      clear hk
      go_wp2
      go_ret
      exact ⟨rfl, hd.out⟩
    · obtain rfl : b = true := hb'.out.2 ⟨hg'.out.1 rfl, by rw [← hkd'.out]; exact hk⟩
      have hk0 : (k != 0) = true := by simpa using hk
      go_wp2
      go_ret
      exact ⟨rfl, hd.out⟩

set_option maxRecDepth 100000 in
set_option maxHeartbeats 1000000 in
theorem pSize_any (v : CV) (c : ContD) (w : World) (h : v.On w c) (n : Int) (hn : (GoodC c → n = (sizeC c : Nat)) ∧ (¬ GoodC c → n = 0)) :
    Calls Try.prog 13 #[v.val] w (fun e w' => e = .returned (.int .i64 n) ∧ Below w.heap.size w w') := by
  obtain ⟨g, hg⟩ := bool_of (GoodC c)
  have hmb := Lib.hid (fun u (hu : Below w.heap.size w u) => mayBe_any v c g hg u (h.below hu (Nat.le_refl _)))
  have hsz := Lib.hid (fun (hgc : GoodC c) u (hu : Below w.heap.size w u) => psize_any v c u (h.below hu (Nat.le_refl _)) (Nat.le_trans (good_size hgc) (by decide)))
  obtain ⟨k, rq, rn, rc, kq, kn, kc⟩ := v
  obtain ⟨W, hW⟩ : ∃ W, w.alloc (.cells #[.int .i64 k, .slice rq rn rc, .slice kq kn kc] 25) = W := ⟨_, rfl⟩
  have hbx := Lib.hid (one_box (xs := [.int .i64 k, .slice rq rn rc, .slice kq kn kc]) hW)
  have hs := sizeCont (.int .i64 k) (.slice rq rn rc) (.slice kq kn kc)
  have hn' := Lib.hid hn
  have hg' := Lib.hid hg
  clear h hn hg
  show Calls _ _ #[.agg #[.int .i64 k, .slice rq rn rc, .slice kq kn kc]] _ _
  go_enter Try.func13, Try.ntmps13
  go_wp2_with (first
    | (with_reducible refine wpList_load_at rfl 25 (.tmp 1) rfl Try.underlying25 rfl hs rfl hbx.out.2.1.all ?_))
  refine (hmb.out W hbx.out.1).mono ?_
  clear hmb hW
  rintro e w1 ⟨rfl, hb1⟩
  have hd := Lib.hid (hbx.out.1.trans (hb1.mono hbx.out.1.size))
  have hb2 := Lib.hid (hbx.out.2.1.below hb1 (Nat.le_refl _))
  clear hb1
  cases g with
  | false =>
    obtain rfl : n = 0 := hn'.out.2 (fun h => by have := hg'.out.2 h; cases this)
    go_wp2
    go_ret
    exact ⟨rfl, hd.out⟩
  | true =>
    have hgc := Lib.hid (hg'.out.1 rfl)
    obtain rfl : n = (sizeC c : Nat) := hn'.out.1 hgc.out
    go_wp2_with (first
      | (with_reducible refine wpList_load_at rfl 25 (.tmp 1) rfl Try.underlying25 rfl hs rfl hb2.out.all ?_))
    refine (hsz.out hgc.out _ hd.out).mono ?_
    rintro e w2 ⟨rfl, hb3⟩
    have hd2 := Lib.hid (hd.out.trans (hb3.mono hd.out.size))
    clear hb3 hsz
    go_wp2
    go_ret
    exact ⟨rfl, hd2.out⟩

set_option maxRecDepth 100000 in
set_option maxHeartbeats 1000000 in
theorem small_any (v : CV) (c : ContD) (b : Bool) (hb : b = true ↔ (GoodC c ∧ c.kind ≠ 0) ∧ sizeC c ≤ 2) (w : World) (h : v.On w c) :
    Calls Try.prog 15 #[v.val] w (fun e w' => e = .returned (.bool b) ∧ Below w.heap.size w w') := by
  obtain ⟨g, hg⟩ := bool_of (GoodC c ∧ c.kind ≠ 0)
  have hmb := Lib.hid (fun u (hu : Below w.heap.size w u) => holds_any v c g hg u (h.below hu (Nat.le_refl _)))
  have hsz := Lib.hid (fun (hgc : GoodC c) u (hu : Below w.heap.size w u) => psize_any v c u (h.below hu (Nat.le_refl _)) (Nat.le_trans (good_size hgc) (by decide)))
  obtain ⟨k, rq, rn, rc, kq, kn, kc⟩ := v
  obtain ⟨W, hW⟩ : ∃ W, w.alloc (.cells #[.int .i64 k, .slice rq rn rc, .slice kq kn kc] 25) = W := ⟨_, rfl⟩
  have hbx := Lib.hid (one_box (xs := [.int .i64 k, .slice rq rn rc, .slice kq kn kc]) hW)
  have hs := sizeCont (.int .i64 k) (.slice rq rn rc) (.slice kq kn kc)
  have hb' := Lib.hid hb
  have hg' := Lib.hid hg
  generalize sizeC c = s at hsz hb'
  clear h hb hg
  show Calls _ _ #[.agg #[.int .i64 k, .slice rq rn rc, .slice kq kn kc]] _ _
  go_enter Try.func15, Try.ntmps15
  go_wp2_with (first
    | (with_reducible refine wpList_load_at rfl 25 (.tmp 1) rfl Try.underlying25 rfl hs rfl hbx.out.2.1.all ?_))
  refine (hmb.out W hbx.out.1).mono ?_
  clear hmb hW
  rintro e w1 ⟨rfl, hb1⟩
  have hd := Lib.hid (hbx.out.1.trans (hb1.mono hbx.out.1.size))
  have hb2 := Lib.hid (hbx.out.2.1.below hb1 (Nat.le_refl _))
  clear hb1
  cases g with
  | false =>
    obtain rfl : b = false := b_false hb'.out (fun h => by have := hg'.out.2 h.1; cases this)
    go_wp2
    go_ret
    exact ⟨rfl, hd.out⟩
  | true =>
    have hgc := Lib.hid (hg'.out.1 rfl)
    have c0 := hb2.out.cell 0 rfl
    have c1 := hb2.out.cell 1 rfl
    have c2 := hb2.out.cell 2 rfl
    go_wp2_with fail
    refine (hsz.out hgc.out.1 _ hd.out).mono ?_
    rintro e w2 ⟨rfl, hb3⟩
    have hd2 := Lib.hid (hd.out.trans (hb3.mono hd.out.size))
    clear hb3 hsz
    by_cases hk : s ≤ 2
    · obtain rfl : b = true := hb'.out.2 ⟨hgc.out, hk⟩
      have hk0 : decide ((s : Int) ≤ 2) = true := decide_eq_true (by omega)
      go_wp2
      go_ret
      exact ⟨rfl, hd2.out⟩
    · obtain rfl : b = false := b_false hb'.out (fun h => hk h.2)
      have hk0 : decide ((s : Int) ≤ 2) = false := decide_eq_false (by omega)
      go_wp2
      go_ret
      exact ⟨rfl, hd2.out⟩

set_option maxRecDepth 100000 in
set_option maxHeartbeats 2000000 in
theorem full_any (v : CV) (c : ContD) (b : Bool) (hb : b = true ↔ (GoodC c ∧ c.kind ≠ 0) ∧ sizeC c = 4) (w : World) (h : v.On w c) :
    Calls Try.prog 14 #[v.val] w (fun e w' => e = .returned (.bool b) ∧ Below w.heap.size w w') := by
  obtain ⟨g, hg⟩ := bool_of (GoodC c ∧ c.kind ≠ 0)
  have hmb := Lib.hid (fun u (hu : Below w.heap.size w u) => holds_any v c g hg u (h.below hu (Nat.le_refl _)))
  have hsz := Lib.hid (fun (hgc : GoodC c) u (hu : Below w.heap.size w u) => psize_any v c u (h.below hu (Nat.le_refl _)) (Nat.le_trans (good_size hgc) (by decide)))
  have hrm := Lib.hid (fun u => room_any v u)
  obtain ⟨k, rq, rn, rc, kq, kn, kc⟩ := v
  obtain ⟨W, hW⟩ : ∃ W, w.alloc (.cells #[.int .i64 k, .slice rq rn rc, .slice kq kn kc] 25) = W := ⟨_, rfl⟩
  have hbx := Lib.hid (one_box (xs := [.int .i64 k, .slice rq rn rc, .slice kq kn kc]) hW)
  have hs := sizeCont (.int .i64 k) (.slice rq rn rc) (.slice kq kn kc)
  have hb' := Lib.hid hb
  have hg' := Lib.hid hg
  generalize sizeC c = s at hsz hb'
  clear h hb hg
  have hld : Hid (∀ u, Below W.heap.size W u → (loadVar 25 ⟨w.heap.size, 0, none⟩).run Try.prog u = .ok (.agg #[.int .i64 k, .slice rq rn rc, .slice kq kn kc]) u) := fun u hu => run_loadVar_at Try.underlying25 rfl hs _ (hbx.out.2.1.below hu (Nat.le_refl _)).all
  show Calls _ _ #[.agg #[.int .i64 k, .slice rq rn rc, .slice kq kn kc]] _ _
  go_enter Try.func14, Try.ntmps14
  go_wp2_with fail
  clear hW
  refine wp_region_held (S := fun u => Below W.heap.size W u) (by kernel_rfl) ?_
  change wpAnyH _ _ _ _ _ _ _ _ (World.drew W)
  have hS0 : Below W.heap.size W (W).drew := below_drew _
  refine wpF.held _ _ _ ?_ _ hS0
  refine fx (i := 0) (dst := some 3) rfl rfl (fx_load 25 (.tmp 1) hld.out) ?_; go_frame
  refine fx (i := 1) (dst := some 4) (v := .bool g) rfl rfl (fx_call (fun u hu => (hmb.out u (hbx.out.1.trans (hu.mono hbx.out.1.size))).mono fun e y h => ⟨h.1, below_step h.2 hu⟩)) ?_; go_frame
  refine fx (i := 2) (dst := some 5) (v := .bool g) rfl rfl (fx_move (.tmp 4)) ?_; go_frame
  cases g with
  | false =>
    obtain rfl : b = false := b_false hb'.out (fun h => by have := hg'.out.2 h.1; cases this)
    refine fx (i := 3) (dst := some 6) rfl rfl fx_off ?_; go_frame
    refine fx (i := 4) (dst := some 7) rfl rfl fx_off ?_; go_frame
    refine fx (i := 5) (dst := some 8) rfl rfl fx_off ?_; go_frame
    refine fx (i := 6) (dst := some 9) rfl rfl fx_off ?_; go_frame
    refine fx (i := 7) (dst := some 10) rfl rfl fx_off ?_; go_frame
    refine fx (i := 8) (dst := some 11) (v := .bool false) rfl rfl (fx_read (fun u hu => by go_simp)) ?_; go_frame
    refine fx (i := 9) (dst := some 2) (v := .bool false) rfl rfl (fx_read (fun u hu => by go_simp)) ?_; go_frame
    refine fx_done (fun u hu => ?_) (by kernel_rfl) _
    have hd := Lib.hid (hbx.out.1.trans (hu.mono hbx.out.1.size))
    go_wp2
    go_ret
    exact ⟨rfl, hd.out⟩
  | true =>
    obtain ⟨q, hq⟩ : ∃ q : Bool, decide ((s : Int) = 4) = q := ⟨_, rfl⟩
    have hqe : ((s : Int) == 4) = q := by rw [← hq]; rfl
    obtain rfl : b = q := by
      cases q with
      | true => exact hb'.out.2 ⟨hg'.out.1 rfl, by have := of_decide_eq_true hq; omega⟩
      | false => exact b_false hb'.out (fun h => by have := of_decide_eq_false hq; have := h.2; omega)
    clear hq
    refine fx (i := 3) (dst := some 6) rfl rfl (fx_load 25 (.tmp 1) hld.out) ?_; go_frame
    refine fx (i := 4) (dst := some 7) (v := .int .i64 (s : Int)) rfl rfl (fx_call (fun u hu => (hsz.out (hg'.out.1 rfl).1 u (hbx.out.1.trans (hu.mono hbx.out.1.size))).mono fun e y h => ⟨h.1, below_step h.2 hu⟩)) ?_; go_frame
    refine fx (i := 5) (dst := some 8) rfl rfl (fx_load 25 (.tmp 1) hld.out) ?_; go_frame
    refine fx (i := 6) (dst := some 9) (v := .int .i64 4) rfl rfl (fx_call (fun u hu => (hrm.out u).mono fun e y h => ⟨h.1, below_step h.2 hu⟩)) ?_; go_frame
    refine fx (i := 7) (dst := some 10) (v := .bool b) rfl rfl (fx_read (fun u hu => by go_simp)) ?_; go_frame
    refine fx (i := 8) (dst := some 11) (v := .bool b) rfl rfl (fx_read (fun u hu => by go_simp)) ?_; go_frame
    refine fx (i := 9) (dst := some 2) (v := .bool b) rfl rfl (fx_read (fun u hu => by go_simp)) ?_; go_frame
    refine fx_done (fun u hu => ?_) (by kernel_rfl) _
    have hd := Lib.hid (hbx.out.1.trans (hu.mono hbx.out.1.size))
    go_wp2
    go_ret
    exact ⟨rfl, hd.out⟩

def kindE (c : ContD) (k e : Int) (x : Int) : Prop := (x = 160 ∧ ¬ GoodC c) ∨ (GoodC c ∧ c.kind ≠ k ∧ x = e) ∨ (GoodC c ∧ c.kind = k ∧ x = 0)
set_option maxRecDepth 100000 in
set_option maxHeartbeats 1000000 in
theorem checkKind_any (v : CV) (c : ContD) (kd er : Int) (w : World) (h : v.On w c) :
    Calls Try.prog 67 #[v.val, .int .i64 kd, .int .i64 er] w (fun e w' => ∃ x, e = .returned (.int .i64 x) ∧ kindE c kd er x ∧ Below w.heap.size w w') := by
  have hkd : v.k = c.kind := h.kind
  obtain ⟨k, rq, rn, rc, kq, kn, kc⟩ := v
  simp only at hkd
  have hkd' := Lib.hid hkd
  obtain ⟨W, hW⟩ : ∃ W, w.alloc (.cells #[.int .i64 k, .slice rq rn rc, .slice kq kn kc] 25) = W := ⟨_, rfl⟩
  have hbx := Lib.hid (one_box (xs := [.int .i64 k, .slice rq rn rc, .slice kq kn kc]) hW)
  have hs := sizeCont (.int .i64 k) (.slice rq rn rc) (.slice kq kn kc)
  have hchk := Lib.hid (check_any k rq rn rc kq kn kc c W (ContOn.below h hbx.out.1 (Nat.le_refl _)))
  clear h hkd
  show Calls _ _ #[.agg #[.int .i64 k, .slice rq rn rc, .slice kq kn kc], .int .i64 kd, .int .i64 er] _ _
  go_enter Try.func67, Try.ntmps67
  go_wp2_with (first
    | (with_reducible refine wpList_load_at rfl 25 (.tmp 3) rfl Try.underlying25 rfl hs rfl hbx.out.2.1.all ?_))
  refine hchk.out.mono ?_
  clear hchk hW
  rintro e w1 ⟨x, rfl, hx, hb1⟩
  have hd := Lib.hid (hbx.out.1.trans (hb1.mono hbx.out.1.size))
  have c0 := (hbx.out.2.1.below hb1 (Nat.le_refl _)).cell 0 rfl
  clear hb1
  rcases hx with ⟨rfl, hg⟩ | ⟨rfl, hg⟩
  · have hg' := Lib.hid hg
    clear hg
    by_cases hk : k = kd
    · have hk' := Lib.hid hk
      have hk0 : (k != kd) = false := by simpa using hk
      clear hk
      go_wp2
      go_ret
      exact ⟨_, rfl, .inr (.inr ⟨hg'.out, by rw [← hkd'.out, hk'.out], rfl⟩), hd.out⟩
    · have hk' := Lib.hid hk
      have hk0 : (k != kd) = true := by simpa using hk
      clear hk
      go_wp2
      go_ret
      exact ⟨_, rfl, .inr (.inl ⟨hg'.out, by rw [← hkd'.out]; exact hk'.out, rfl⟩), hd.out⟩
  · have hg' := Lib.hid hg
    clear hg
    go_wp2
    go_ret
    exact ⟨_, rfl, .inl ⟨rfl, hg'.out⟩, hd.out⟩

set_option maxRecDepth 100000 in
set_option maxHeartbeats 1000000 in
theorem checkLeaf_any (v : CV) (c : ContD) (w : World) (h : v.On w c) :
    Calls Try.prog 45 #[v.val] w (fun e w' => ∃ x, e = .returned (.int .i64 x) ∧ kindE c 1 211 x ∧ Below w.heap.size w w') := by
  have hck := Lib.hid (fun u (hu : Below w.heap.size w u) => checkKind_any v c 1 211 u (h.below hu (Nat.le_refl _)))
  obtain ⟨k, rq, rn, rc, kq, kn, kc⟩ := v
  obtain ⟨W, hW⟩ : ∃ W, w.alloc (.cells #[.int .i64 k, .slice rq rn rc, .slice kq kn kc] 25) = W := ⟨_, rfl⟩
  have hbx := Lib.hid (one_box (xs := [.int .i64 k, .slice rq rn rc, .slice kq kn kc]) hW)
  have hs := sizeCont (.int .i64 k) (.slice rq rn rc) (.slice kq kn kc)
  clear h
  show Calls _ _ #[.agg #[.int .i64 k, .slice rq rn rc, .slice kq kn kc]] _ _
  go_enter Try.func45, Try.ntmps45
  go_wp2_with (first
    | (with_reducible refine wpList_load_at rfl 25 (.tmp 1) rfl Try.underlying25 rfl hs rfl hbx.out.2.1.all ?_))
  refine (hck.out W hbx.out.1).mono ?_
  clear hck hW
  rintro e w1 ⟨x, rfl, hx, hb1⟩
  have hx' := Lib.hid hx
  have hd := Lib.hid (hbx.out.1.trans (hb1.mono hbx.out.1.size))
  clear hb1 hx
  go_wp2
  go_ret
  exact ⟨_, rfl, hx'.out, hd.out⟩

set_option maxRecDepth 100000 in
set_option maxHeartbeats 1000000 in
theorem leafOf_any (q : Option Addr) (n c : Nat) (w : World) :
    Calls Try.prog 48 #[.slice q n c] w (fun e w' => e = .returned (.agg #[.int .i64 1, .slice q n c, .slice none 0 0]) ∧ Below w.heap.size w w') := by
  obtain ⟨W, hW⟩ : ∃ W, w.alloc (.cells #[.int .i64 0, .slice none 0 0, .slice none 0 0] 25) = W := ⟨_, rfl⟩
  have hbx := Lib.hid (one_box (xs := [.int .i64 0, .slice none 0 0, .slice none 0 0]) hW)
  have hres : Hid (RowV 25 W w.heap.size [.int .i64 0, .slice none 0 0, .slice none 0 0]) := by
    have h0 := RowV.made (T := 25) w [.int .i64 0, .slice none 0 0, .slice none 0 0]
    show RowV _ _ _ _
    rw [← hW]; exact h0
  have hs := sizeCont (.int .i64 1) (.slice q n c) (.slice none 0 0)
  go_enter Try.func48, Try.ntmps48
  go_wp2_with (first
    | ((with_reducible refine wpList_store_at rfl 25 (.tmp 2) (.tmp 4) rfl (o := 0) (vs := [.int .i64 1, .slice q n c, .slice none 0 0]) rfl rfl hres.out hs (Nat.le_refl _) (cont_one _ _ _ _ _ _ _) ?_)
       intro w9 h9 hg9
       have q9 := Lib.hid h9
       have hg9' := Lib.hid hg9
       clear h9 hg9))
  have s9 : RowV 25 w9 w.heap.size [.int .i64 1, .slice q n c, .slice none 0 0] := q9.out
  have m0 := s9.cell 0
  have m1 := s9.cell 1
  have m2 := s9.cell 2
  simp only [List.getElem?_cons_zero, List.getElem?_cons_succ] at m0 m1 m2
  refine bodyPost_ret (v := .agg #[.int .i64 1, .slice q n c, .slice none 0 0]) (by simp [results, Try.results48, go_sem, m0, m1, m2]) rfl ?_
  exact ⟨rfl, Gr.below hg9'.out hbx.out.1 (Nat.le_refl _)⟩

set_option maxRecDepth 100000 in
set_option maxHeartbeats 1000000 in
theorem innerOf_any (q : Option Addr) (n c : Nat) (w : World) :
    Calls Try.prog 77 #[.slice q n c] w (fun e w' => e = .returned (.agg #[.int .i64 2, .slice none 0 0, .slice q n c]) ∧ Below w.heap.size w w') := by
  obtain ⟨W, hW⟩ : ∃ W, w.alloc (.cells #[.int .i64 0, .slice none 0 0, .slice none 0 0] 25) = W := ⟨_, rfl⟩
  have hbx := Lib.hid (one_box (xs := [.int .i64 0, .slice none 0 0, .slice none 0 0]) hW)
  have hres : Hid (RowV 25 W w.heap.size [.int .i64 0, .slice none 0 0, .slice none 0 0]) := by
    have h0 := RowV.made (T := 25) w [.int .i64 0, .slice none 0 0, .slice none 0 0]
    show RowV _ _ _ _
    rw [← hW]; exact h0
  have hs := sizeCont (.int .i64 2) (.slice none 0 0) (.slice q n c)
  go_enter Try.func77, Try.ntmps77
  go_wp2_with (first
    | ((with_reducible refine wpList_store_at rfl 25 (.tmp 2) (.tmp 4) rfl (o := 0) (vs := [.int .i64 2, .slice none 0 0, .slice q n c]) rfl rfl hres.out hs (Nat.le_refl _) (cont_one _ _ _ _ _ _ _) ?_)
       intro w9 h9 hg9
       have q9 := Lib.hid h9
       have hg9' := Lib.hid hg9
       clear h9 hg9))
  have s9 : RowV 25 w9 w.heap.size [.int .i64 2, .slice none 0 0, .slice q n c] := q9.out
  have m0 := s9.cell 0
  have m1 := s9.cell 1
  have m2 := s9.cell 2
  simp only [List.getElem?_cons_zero, List.getElem?_cons_succ] at m0 m1 m2
  refine bodyPost_ret (v := .agg #[.int .i64 2, .slice none 0 0, .slice q n c]) (by simp [results, Try.results77, go_sem, m0, m1, m2]) rfl ?_
  exact ⟨rfl, Gr.below hg9'.out hbx.out.1 (Nat.le_refl _)⟩


def pairE (a b : ContD) (x : Int) : Prop := (x = 160 ∧ ¬ (GoodC a ∧ GoodC b)) ∨ (GoodC a ∧ GoodC b ∧ (a.kind = 0 ∨ a.kind ≠ b.kind) ∧ x = 2) ∨ (GoodC a ∧ GoodC b ∧ a.kind ≠ 0 ∧ a.kind = b.kind ∧ x = 0)
set_option maxRecDepth 100000 in
set_option maxHeartbeats 2000000 in
theorem checkPair_any (v u : CV) (a b : ContD) (w : World) (ha : v.On w a) (hb : u.On w b) :
    Calls Try.prog 54 #[v.val, u.val] w (fun e w' => ∃ x, e = .returned (.int .i64 x) ∧ pairE a b x ∧ Below w.heap.size w w') := by
  obtain ⟨ga, hga⟩ := bool_of (GoodC a)
  obtain ⟨gb, hgb⟩ := bool_of (GoodC b)
  have hma := Lib.hid (fun y (hu : Below w.heap.size w y) => mayBe_any v a ga hga y (ha.below hu (Nat.le_refl _)))
  have hmb := Lib.hid (fun y (hu : Below w.heap.size w y) => mayBe_any u b gb hgb y (hb.below hu (Nat.le_refl _)))
  have hka : v.k = a.kind := ha.kind
  have hkb : u.k = b.kind := hb.kind
  obtain ⟨k, rq, rn, rc, kq, kn, kc⟩ := v
  obtain ⟨k2, rq2, rn2, rc2, kq2, kn2, kc2⟩ := u
  simp only at hka hkb
  have hka' := Lib.hid hka
  have hkb' := Lib.hid hkb
  have hga' := Lib.hid hga
  have hgb' := Lib.hid hgb
  obtain ⟨W, hW⟩ : ∃ W, (w.alloc (.cells #[.int .i64 k, .slice rq rn rc, .slice kq kn kc] 25)).alloc (.cells #[.int .i64 k2, .slice rq2 rn2 rc2, .slice kq2 kn2 kc2] 25) = W := ⟨_, rfl⟩
  have hbx := Lib.hid (two_boxes (xs := [.int .i64 k, .slice rq rn rc, .slice kq kn kc]) (ys := [.int .i64 k2, .slice rq2 rn2 rc2, .slice kq2 kn2 kc2]) hW)
  have hs := sizeCont (.int .i64 k) (.slice rq rn rc) (.slice kq kn kc)
  have hs2 := sizeCont (.int .i64 k2) (.slice rq2 rn2 rc2) (.slice kq2 kn2 kc2)
  clear ha hb hka hkb hga hgb
  show Calls _ _ #[.agg #[.int .i64 k, .slice rq rn rc, .slice kq kn kc], .agg #[.int .i64 k2, .slice rq2 rn2 rc2, .slice kq2 kn2 kc2]] _ _
  go_enter Try.func54, Try.ntmps54
  go_wp2_with (first
    | (with_reducible refine wpList_load_at rfl 25 (.tmp 2) rfl Try.underlying25 rfl hs rfl hbx.out.2.1.all ?_))
  refine (hma.out W hbx.out.1).mono ?_
  clear hma hW
  rintro e w1 ⟨rfl, hb1⟩
  have hd1 := Lib.hid (hbx.out.1.trans (hb1.mono hbx.out.1.size))
  have bx1 := Lib.hid (hbx.out.2.1.below hb1 (Nat.le_refl _))
  have by1 := Lib.hid (hbx.out.2.2.1.below hb1 (Nat.le_refl _))
  clear hb1
  have x0 := bx1.out.cell 0 rfl
  have y0 := by1.out.cell 0 rfl
  have y1 := by1.out.cell 1 rfl
  have y2 := by1.out.cell 2 rfl
  cases ga with
  | false =>
    have hn : Hid (¬ GoodC a) := fun h => by have := hga'.out.2 h; cases this
    go_wp2
    go_ret
    exact ⟨_, rfl, .inl ⟨rfl, fun h => hn.out h.1⟩, hd1.out⟩
  | true =>
    have hA := Lib.hid (hga'.out.1 rfl)
    clear hga'
    go_wp2_with fail
    refine (hmb.out w1 hd1.out).mono ?_
    clear hmb x0 y0 y1 y2
    rintro e w2 ⟨rfl, hb2⟩
    have hd2 := Lib.hid (hd1.out.trans (hb2.mono hd1.out.size))
    have x0 := (bx1.out.below hb2 (Nat.le_refl _)).cell 0 rfl
    have y0 := (by1.out.below hb2 (Nat.le_refl _)).cell 0 rfl
    clear hb2
    cases gb with
    | false =>
      have hn : Hid (¬ GoodC b) := fun h => by have := hgb'.out.2 h; cases this
      go_wp2
      go_ret
      exact ⟨_, rfl, .inl ⟨rfl, fun h => hn.out h.2⟩, hd2.out⟩
    | true =>
      have hB := Lib.hid (hgb'.out.1 rfl)
      clear hgb'
      by_cases hk : k = 0
      · have hk' := Lib.hid hk
        have hk0 : (k == 0) = true := by simpa using hk
        clear hk
        go_wp2
        go_ret
        exact ⟨_, rfl, .inr (.inl ⟨hA.out, hB.out, .inl (by rw [← hka'.out]; exact hk'.out), rfl⟩), hd2.out⟩
      · have hk' := Lib.hid hk
        have hk0 : (k == 0) = false := by simpa using hk
        clear hk
        by_cases hj : k = k2
        · have hj' := Lib.hid hj
          have hj0 : (k != k2) = false := by simpa using hj
          clear hj
          go_wp2
          go_ret
          exact ⟨_, rfl, .inr (.inr ⟨hA.out, hB.out, by rw [← hka'.out]; exact hk'.out, by rw [← hka'.out, ← hkb'.out]; exact hj'.out, rfl⟩), hd2.out⟩
        · have hj' := Lib.hid hj
          have hj0 : (k != k2) = true := by simpa using hj
          clear hj
          go_wp2
          go_ret
          exact ⟨_, rfl, .inr (.inl ⟨hA.out, hB.out, .inr (by rw [← hka'.out, ← hkb'.out]; exact hj'.out), rfl⟩), hd2.out⟩
end Go.Proofs.Ytaiepdhmlmnggaa
