/- Page: parts cut off and joined: clones, halves, Grow, Concat. -/
import Derived.Test.YtaiepdhmlmnggaaPFn
import Derived.Test.YtaiepdhmlmnggaaYPut
namespace Go.Proofs.Ytaiepdhmlmnggaa
open Go.RowKit

section
variable {P : Program} {w : World}
theorem wpList_append_zn {t tn T : TypeId} {bytes sz : Nat} {z : Value} (ht : P.underlying t = some (.slice T)) (htn : P.underlying tn = some (.int .i64)) (hi : (P.info? T).map (fun i => (i.zero, i.size, i.bytes)) = some (some z, sz, bytes)) (hz : z.cells.size = sz) (hsz : 0 < sz)
    {ops : Array Oper} {rest : List Oper} {o : Oper} {a : Act} {Q : Exit → Act → World → Prop} (hgd : o.guard = none) (sl x : Operand)
    (ho : o.op = .call { callee := .builtin .append, args := #[sl, x], argTypes := #[t, tn] }) {k : Nat} (hsl : a.eval sl = .slice none 0 0) (hx : a.eval x = .int .i64 k)
    (hk : 0 < k) (hbig : (0 + k) * bytes ≤ 140737488355328) (hbig2 : k ≤ 140737488355328)
    (h : ∀ c' w', k ≤ c' → c' ≤ maxLen → (∃ cs, RowV T w' w.heap.size cs ∧ cs.length = c' * sz) → Below w.heap.size w w' → w.heap.size < w'.heap.size → wpList P ops Q rest (a.put o.dst (.slice (some ⟨w.heap.size, 0, none⟩) k c')) w') : wpList P ops Q (o :: rest) a w := by
  obtain ⟨i0, hi0, hz0, hz1, hz2⟩ := info_parts hi
  have hf : (Builtin.firstCells i0.size 0 (.slice none 0 0)).run P w.drew = .ok ([] : List Value).toArray w.drew := by simp [Builtin.firstCells]
  have hrun := Lib.run_append_grow_zeros w t tn o.type T i0 z .i64 .i64 ht htn hi0 hz0 none 0 0 [] hf k hk (by rw [hz1]; exact hsz) (by omega) (by omega) (by rw [hz2]; exact Nat.le_trans (Nat.mul_le_mul_right _ (Nat.le_add_left k 0)) (Nat.le_trans hbig (by decide))) (by rw [hz2]; exact growslice_fits (by omega) hbig)
  have hge := grownCap_ge w (0 + k) 0 T
  have hcm := grownCap_le_maxLen w (0 + k) 0 T (by unfold maxLen; omega)
  have hkk : 0 + k = k := Nat.zero_add k
  rw [hkk] at hrun hge hcm
  refine Lib.wpList_append_run w hgd sl x t tn ho _ _ hsl hx _ _ hrun (h _ _ hge hcm ⟨(Builtin.zeroCells z.cells k ++ Builtin.zeroCells z.cells (grownCap w k 0 T - k)).toList, ?_, ?_⟩ ?_ (by simp))
  · unfold RowV
    have e : ((Builtin.zeroCells z.cells k ++ Builtin.zeroCells z.cells (grownCap w k 0 T - k)).toList).toArray = ([] : List Value).toArray ++ Builtin.zeroCells z.cells k ++ Builtin.zeroCells z.cells (grownCap w k 0 T - k) := by
      apply Array.ext'
      simp
    rw [e]
    exact heap_alloc_new w.drew _
  · simp only [Array.length_toList, Array.size_append, size_zeroCells, hz]
    rw [← Nat.add_mul]
    congr 1
    omega
  · exact (below_drew w).trans ((Below.refl w.drew.heap.size w.drew).alloc (Nat.le_refl _) _)
end

theorem RowsOn.behind {w : World} {q : Option Addr} {n c m : Nat} {l : List RowD} (h : RowsOn w q n c l) (hm : m ≤ n) : RowsOn w (if c = m then q else q.map (·.add (m * 4))) (n - m) (c - m) (l.drop m) := by
  have hl := h.len
  refine ⟨by rw [List.length_drop, hl], by have := h.le; omega, by have := h.cap; omega, fun hq => ?_, fun i r hi => ?_, fun r hr => h.ok r (List.mem_of_mem_drop hr)⟩
  · by_cases hc : c = m
    · omega
    · rw [if_neg hc] at hq
      have : q = none := by cases q <;> simp_all
      have := h.nil this
      omega
  · rw [List.getElem?_drop] at hi
    obtain ⟨a, ha, hc⟩ := h.get _ _ hi
    have hlt : m + i < n := by have := (List.getElem?_eq_some_iff.1 hi).1; omega
    have := h.le
    rw [if_neg (by omega), ha]
    refine ⟨a.add (m * 4), rfl, fun j x hj => ?_⟩
    have h1 := hc j x hj
    have e : (a.add (m * 4)).add (i * 4) = a.add ((m + i) * 4) := by rw [Go.Deep.add_add, ← Nat.add_mul]
    rw [e]
    exact h1
set_option maxRecDepth 100000 in
theorem tail_R (p : Option Addr) (n c k : Nat) (hk : k ≤ n) (u : World) :
    (Instr.slice 22 (.slice p n c) (some (.int .i64 (k : Int))) none none).run Try.prog u = .ok (.slice (if c = k then p else p.map (·.add (k * 4))) (n - k) (c - k)) u := by
  have h := run_slice_l (P := Try.prog) u 22 p n c (by kernel_rfl) .i64 (k : Int) (by omega) (by omega)
  rw [h, show (sizeOf (Try.prog.elem 22)).run Try.prog u = .ok 4 u by kernel_rfl]
  simp only [Result.andThen, sliced, Int.toNat_natCast]

set_option maxRecDepth 100000 in
set_option maxHeartbeats 2000000 in
theorem growR_any (n : Nat) (hn : n ≤ 2000000) (w : World) :
    Calls Try.prog 65 #[.slice none 0 0, .int .i64 n] w (fun e w' => ∃ q' c', e = .returned (.slice q' 0 c') ∧ OwnR 30 w' w.heap.size (.slice q' 0 c') [] ∧ Below w.heap.size w w') := by
  have e1 : IntKind.i64.wrap (n : Int) = n := IntWalk.i64_in _ (by omega)
  have i0 : ¬ (n : Int) < 0 := by omega
  rcases Nat.eq_zero_or_pos n with h0 | h0
  · subst h0
    go_enter Try.func65, Try.ntmps65
    go_wp2
    go_ret
    exact ⟨none, 0, rfl, OwnR.nil _ _ _, Below.refl _ _⟩
  · have h1 : (0 : Int) < n := by omega
    go_enter Try.func65, Try.ntmps65
    go_wp2_with (first
      | (at_builtin
         refine wpList_append_zn Try.underlying22 Try.underlying3 infoRow rfl (by decide) rfl (.tmp 20) (.tmp 21) rfl rfl rfl (k := n) h0 (by omega) (by omega) ?_
         intro c' w' h2 h3 h4 h5 h6
         have hle := h2
         have hcm := Lib.hid h3
         have hrow := Lib.hid h4
         have hb := Lib.hid h5
         have hsl : ∀ u, (Instr.slice 22 (.slice (some ⟨w.heap.size, 0, none⟩) n c') none (some (.int .i64 0)) none).run Try.prog u = .ok (.slice (some ⟨w.heap.size, 0, none⟩) 0 c') u := fun u => slice_rows _ n c' 0 (Nat.zero_le _) hle u
         clear h2 h3 h4 h5 h6))
    go_ret
    obtain ⟨cs, hr, hl⟩ := hrow.out
    exact ⟨_, c', rfl, ⟨by simp [cellsR], .inr ⟨w.heap.size, c', cs.toArray, rfl, Nat.le_refl _, hr, Nat.zero_le _, hcm.out, by simpa using hl, by simp [cellsR]⟩⟩, hb.out⟩

set_option maxRecDepth 100000 in
set_option maxHeartbeats 4000000 in
theorem concatR_any (q1 : Option Addr) (n1 c1 : Nat) (l1 : List RowD) (q2 : Option Addr) (n2 c2 : Nat) (l2 : List RowD) (b : Nat) (w : World) (h1 : RowsOn w q1 n1 c1 l1) (h2 : RowsOn w q2 n2 c2 l2) (hn : n1 ≤ 1000000) (hn2 : n2 ≤ 1000000) (hb : Boxed w b [.slice q1 n1 c1, .slice q2 n2 c2]) :
    Calls Try.prog 35 #[.slice (some ⟨b, 0, none⟩) 2 2] w (fun e w' => ∃ q' c', e = .returned (.slice q' (n1 + n2) c') ∧ OwnR 30 w' w.heap.size (.slice q' (n1 + n2) c') (l1 ++ l2) ∧ Below w.heap.size w w') := by
  have x0 := hb.cell 0 rfl
  have x1 := hb.cell 1 rfl
  have y0 := Lib.hid x0
  have y1 := Lib.hid x1
  have hh1 := Lib.hid h1
  have hh2 := Lib.hid h2
  have e1 : IntKind.i64.wrap (n1 : Int) = n1 := IntWalk.i64_in _ (by omega)
  have e2 : IntKind.i64.wrap ((n1 : Int) + n2) = (n1 : Int) + n2 := IntWalk.i64_in _ (by omega)
  have i1 : ¬ (n1 : Int) < 0 := by omega
  have i2 : ¬ ((n1 : Int) + n2) < 0 := by omega
  have hgr := Lib.hid (growR_any (n1 + n2) (by omega) w)
  clear h1 h2 hb
  go_enter Try.func35, Try.ntmps35
  go_wp2
  go_loop [3, 11] (fun v3 v11 => ∃ s k : Int, v3 = .int .i64 s ∧ v11 = .int .i64 k ∧ ((k = 0 ∧ s = 0) ∨ (k = 1 ∧ s = n1) ∨ (k = 2 ∧ s = (n1 : Int) + n2))) (fun _ v11 => 2 - (RowKit.intOf v11).toNat)
  case atStart => exact ⟨0, 0, rfl, rfl, .inl ⟨rfl, rfl⟩⟩
  case round =>
    obtain ⟨s, k, rfl, rfl, hks⟩ := hrel
    rcases hks with ⟨rfl, rfl⟩ | ⟨rfl, rfl⟩ | ⟨rfl, rfl⟩
    · go_wp2
      go_round
      case rel => exact ⟨n1, 1, by go_num, by go_num, .inr (.inl ⟨rfl, rfl⟩)⟩
      case measure => simp [RowKit.intOf]
    · go_wp2
      go_round
      case rel => exact ⟨(n1 : Int) + n2, 2, by go_num, by go_num, .inr (.inr ⟨rfl, rfl⟩)⟩
      case measure => simp [RowKit.intOf]
    · clear x0 x1
      go_wp2_with fail
      refine Calls.mono (by have h := hgr.out; rwa [Int.natCast_add] at h) ?_
      rintro e w1 ⟨q0, c0, rfl, ho0, hb0⟩
      have ho0' := Lib.hid ho0
      have hb0' := Lib.hid hb0
      clear ho0 hb0 hgr
      go_wp2
      go_loopw [6, 27] (fun v6 v27 wr => ∃ k : Int, v27 = .int .i64 k ∧ ∃ q c n L, v6 = .slice q n c ∧ Hid (OwnR 30 wr w.heap.size (.slice q n c) L) ∧ Hid (Below w.heap.size w wr) ∧ ((k = 0 ∧ n = 0 ∧ L = []) ∨ (k = 1 ∧ n = n1 ∧ L = l1) ∨ (k = 2 ∧ n = n1 + n2 ∧ L = l1 ++ l2))) (fun _ v27 _ => 2 - (RowKit.intOf v27).toNat)
      case atStart => exact ⟨0, rfl, q0, c0, 0, [], rfl, ho0'.out, hb0'.out, .inl ⟨rfl, rfl, rfl⟩⟩
      case round =>
        obtain ⟨k, rfl, q, c, n, L, rfl, ho, hbr, hks⟩ := hrel
        have x0 := cell_keeps hbr.out (Nat.le_refl _) y0.out
        have x1 := cell_keeps hbr.out (Nat.le_refl _) y1.out
        have r1 := Lib.hid (hh1.out.below hbr.out (Nat.le_refl _))
        have r2 := Lib.hid (hh2.out.below hbr.out (Nat.le_refl _))
        have hsz := Lib.hid hbr.out.size
        have hfar : Hid (∀ k, q.map (·.block) = some k → w.heap.size ≤ k) := fun k hk => by
          cases q with
          | none => simp at hk
          | some a => simp at hk; rw [← hk]; exact (ho.out.far a rfl).1
        rcases hks with ⟨rfl, rfl, rfl⟩ | ⟨rfl, rfl, rfl⟩ | ⟨rfl, rfl, rfl⟩
        · go_wp2_with (first
            | (at_builtin
               refine wpList_append_r Try.underlying22 infoRow rfl rfl (.tmp 31) (.tmp 32) rfl rfl rfl ho.out r1.out (by omega) (by omega) hsz.out ?_
               intro q' c' w' g1 g2 g3
               rw [Nat.zero_add] at g1
               have ho' := Lib.hid g1
               have hb' := Lib.hid (hbr.out.trans (grown_belowN g2 hsz.out hfar.out))
               clear g1 g2 g3))
          go_roundw
          case rel => exact ⟨1, by go_num, q', c', n1, _, rfl, ho'.out, hb'.out, .inr (.inl ⟨rfl, rfl, rfl⟩)⟩
          case measure => simp [RowKit.intOf]
        · go_wp2_with (first
            | (at_builtin
               refine wpList_append_r Try.underlying22 infoRow rfl rfl (.tmp 31) (.tmp 32) rfl rfl rfl ho.out r2.out (by omega) (by omega) hsz.out ?_
               intro q' c' w' g1 g2 g3
               have ho' := Lib.hid g1
               have hb' := Lib.hid (hbr.out.trans (grown_belowN g2 hsz.out hfar.out))
               clear g1 g2 g3))
          go_roundw
          case rel => exact ⟨2, by go_num, q', c', n + n2, _, rfl, ho'.out, hb'.out, .inr (.inr ⟨rfl, rfl, rfl⟩)⟩
          case measure => simp [RowKit.intOf]
        · go_wp2
          go_ret
          exact ⟨q, c, rfl, ho.out, hbr.out⟩

set_option maxRecDepth 100000 in
set_option maxHeartbeats 2000000 in
theorem halvesR_any (q : Option Addr) (n c i : Nat) (l : List RowD) (w : World) (hr : RowsOn w q n c l) (hi : i ≤ n) (hn : n ≤ 1000000) :
    Calls Try.prog 75 #[.slice q n c, .int .i64 i] w (fun e w' => ∃ q1 d1 q2 d2 B, e = .returned (.tuple #[.slice q1 i d1, .slice q2 (n - i) d2]) ∧ OwnR 30 w' w.heap.size (.slice q1 i d1) (l.take i) ∧ OwnR 30 w' B (.slice q2 (n - i) d2) (l.drop i) ∧ w.heap.size ≤ B ∧ (∀ a, q1 = some a → a.block < B) ∧ Below w.heap.size w w') := by
  have hrr := Lib.hid hr
  have hs1 := fun u => slice_rows q n c i hi hr.le u
  have hs2 := fun u => tail_R q n c i hi u
  obtain ⟨qt, hqt⟩ : ∃ x, (if c = i then q else q.map (·.add (i * 4))) = x := ⟨_, rfl⟩
  have hbh := Lib.hid (hr.behind hi)
  rw [hqt] at hs2 hbh
  have hf := Lib.hid (hr.front hi)
  clear hr hqt
  go_enter Try.func75, Try.ntmps75
  go_wp2_with fail
  refine wp_region_held (S := fun u => Below w.heap.size w u) (by kernel_rfl) ?_
  change wpAnyH _ _ _ _ _ _ _ _ (World.drew w)
  have hS0 : Below w.heap.size w (w.drew) := below_drew w
  generalize World.drew w = u0 at hS0 ⊢
  refine held_tk (i := 0) (dst := some 6) (v := .slice q n c) rfl rfl (.inl ⟨rfl, fun u hu => by go_simp⟩) hS0 ?_; go_frame
  refine held_tk (i := 1) (dst := some 7) (v := .int .i64 (i : Int)) rfl rfl (.inl ⟨rfl, fun u hu => by go_simp⟩) hS0 ?_; go_frame
  refine held_tk (i := 2) (dst := some 8) (v := .slice q i c) rfl rfl (.inl ⟨rfl, fun u hu => by go_simp⟩) hS0 ?_; go_frame
  refine held_tk (i := 4) (dst := some 10) (v := .slice q n c) rfl rfl (.inl ⟨rfl, fun u hu => by go_simp⟩) hS0 ?_; go_frame
  refine held_tk (i := 5) (dst := some 11) (v := .int .i64 (i : Int)) rfl rfl (.inl ⟨rfl, fun u hu => by go_simp⟩) hS0 ?_; go_frame
  refine held_tk (i := 6) (dst := some 12) (v := .slice qt (n - i) (c - i)) rfl rfl (.inl ⟨rfl, fun u hu => by go_simp⟩) hS0 ?_; go_frame
  refine held_call (i := 3) (dst := some 9) rfl rfl (by kernel_rfl) rfl (by go_simp) (clone_any q i c (l.take i) u0 (hf.out.below hS0 (Nat.le_refl _)) (by omega)) ?_
  rintro e u1 ⟨q1, d1, rfl, o1, b1⟩
  have o1' := Lib.hid o1
  have hS1 := Lib.hid (below_step b1 hS0)
  have hlo := Lib.hid hS0.size
  clear o1 b1 hS0
  refine ⟨_, rfl, hS1.out, ?_⟩; go_frame
  refine held_call (i := 7) (dst := some 13) rfl rfl (by kernel_rfl) rfl (by go_simp) (clone_any qt (n - i) (c - i) (l.drop i) u1 (hbh.out.below hS1.out (Nat.le_refl _)) (by omega)) ?_
  rintro e u2 ⟨q2, d2, rfl, o2, b2⟩
  have o2' := Lib.hid o2
  have o3' := Lib.hid (o1'.out.below b2)
  have hS2 := Lib.hid (below_step b2 hS1.out)
  clear o2 b2
  refine ⟨_, rfl, hS2.out, ?_⟩; go_frame
  refine held_tk (i := 8) (dst := some 4) (v := .slice q1 i d1) rfl rfl (.inl ⟨rfl, fun u hu => by go_simp⟩) hS2.out ?_; go_frame
  refine held_tk (i := 9) (dst := some 5) (v := .slice q2 (n - i) d2) rfl rfl (.inl ⟨rfl, fun u hu => by go_simp⟩) hS2.out ?_; go_frame
  refine wpAnyH_done (by kernel_rfl) ?_ _
  go_wp2
  refine bodyPost_ret (v := .tuple #[.slice q1 i d1, .slice q2 (n - i) d2]) (by simp [results, Try.results75, go_sem]) rfl ?_
  exact ⟨q1, d1, q2, d2, u1.heap.size, rfl, o3'.out.mono hlo.out, o2'.out, hS1.out.size, fun a ha => (o1'.out.far a ha).2, hS2.out⟩

theorem KidsOn.behind {w : World} {q : Option Addr} {n c m : Nat} {l : List KidD} (h : KidsOn w q n c l) (hm : m ≤ n) : KidsOn w (if c = m then q else q.map (·.add (m * 3))) (n - m) (c - m) (l.drop m) := by
  have hl := h.len
  refine ⟨by rw [List.length_drop, hl], by have := h.le; omega, by have := h.cap; omega, fun hq => ?_, fun i r hi => ?_, fun r hr => h.ok r (List.mem_of_mem_drop hr)⟩
  · by_cases hc : c = m
    · omega
    · rw [if_neg hc] at hq
      have : q = none := by cases q <;> simp_all
      have := h.nil this
      omega
  · rw [List.getElem?_drop] at hi
    obtain ⟨a, ha, hc⟩ := h.get _ _ hi
    have hlt : m + i < n := by have := (List.getElem?_eq_some_iff.1 hi).1; omega
    have := h.le
    rw [if_neg (by omega), ha]
    refine ⟨a.add (m * 3), rfl, fun j x hj => ?_⟩
    have h1 := hc j x hj
    have e : (a.add (m * 3)).add (i * 3) = a.add ((m + i) * 3) := by rw [Go.Deep.add_add, ← Nat.add_mul]
    rw [e]
    exact h1
set_option maxRecDepth 100000 in
theorem tail_K (p : Option Addr) (n c k : Nat) (hk : k ≤ n) (u : World) :
    (Instr.slice 23 (.slice p n c) (some (.int .i64 (k : Int))) none none).run Try.prog u = .ok (.slice (if c = k then p else p.map (·.add (k * 3))) (n - k) (c - k)) u := by
  have h := run_slice_l (P := Try.prog) u 23 p n c (by kernel_rfl) .i64 (k : Int) (by omega) (by omega)
  rw [h, show (sizeOf (Try.prog.elem 23)).run Try.prog u = .ok 3 u by kernel_rfl]
  simp only [Result.andThen, sliced, Int.toNat_natCast]

set_option maxRecDepth 100000 in
set_option maxHeartbeats 1000000 in
theorem cloneK_any (q : Option Addr) (n c : Nat) (l : List KidD) (w : World) (hr : KidsOn w q n c l) (hn : n ≤ 1000000) :
    Calls Try.prog 94 #[.slice q n c] w (fun e w' => ∃ q' c', e = .returned (.slice q' n c') ∧ OwnK w' w.heap.size (.slice q' n c') l ∧ Below w.heap.size w w') := by
  cases q with
  | none =>
    have h0 := hr.nil rfl
    have h1 := hr.le
    have h2 := hr.len
    obtain rfl : n = 0 := by omega
    obtain rfl := List.eq_nil_of_length_eq_zero h2
    subst h0
    clear h1 hr
    have heq : ∀ u, (binOp .eql 23 (.slice none 0 0) (.slice none 0 0)).run Try.prog u = .ok (.bool true) u := fun u => Lib.run_eql_slice_nil u _ _ _ _ _ _ _ Try.underlying23
    go_enter Try.func94, Try.ntmps94
    go_wp2
    go_ret
    exact ⟨none, 0, rfl, OwnK.nil _ _, Below.refl _ _⟩
  | some ad =>
    have hrr := Lib.hid hr
    have hl := Lib.hid hr.len
    clear hr
    have heq : ∀ u, (binOp .eql 23 (.slice (some ad) n c) (.slice none 0 0)).run Try.prog u = .ok (.bool false) u := fun u => Lib.run_eql_slice_nil u _ _ _ _ _ _ _ Try.underlying23
    have ho : Hid (OwnK (w.alloc (.cells #[] 64)) w.heap.size (.slice (some ⟨w.heap.size, 0, none⟩) 0 0) []) := World.ownsRow_made w #[] 0 (Nat.le_refl _) (Nat.zero_le _) rfl
    go_enter Try.func94, Try.ntmps94
    go_wp2_with (first
      | (at_builtin
         refine wpList_append_k Try.underlying23 infoKid rfl rfl (.tmp 5) (.tmp 6) rfl rfl rfl ho.out (hrr.out.below ((Below.refl _ _).alloc (Nat.le_refl _) _) (Nat.le_refl _)) (by omega) (by omega) (by simp) ?_
         intro q' c' w' h1 h2 h3
         have hh := Lib.hid h1
         have hg := Lib.hid h2
         clear h1 h2 h3))
    go_ret
    refine ⟨q', c', rfl, by have := hh.out; rwa [Nat.zero_add] at this, ((Below.refl w.heap.size w).alloc (Nat.le_refl _) _).trans (grown_belowN hg.out (by simp) (fun k hk => by cases hk; exact Nat.le_refl _))⟩

set_option maxRecDepth 100000 in
set_option maxHeartbeats 2000000 in
theorem growK_any (n : Nat) (hn : n ≤ 2000000) (w : World) :
    Calls Try.prog 95 #[.slice none 0 0, .int .i64 n] w (fun e w' => ∃ q' c', e = .returned (.slice q' 0 c') ∧ OwnK w' w.heap.size (.slice q' 0 c') [] ∧ Below w.heap.size w w') := by
  have e1 : IntKind.i64.wrap (n : Int) = n := IntWalk.i64_in _ (by omega)
  have i0 : ¬ (n : Int) < 0 := by omega
  rcases Nat.eq_zero_or_pos n with h0 | h0
  · subst h0
    go_enter Try.func95, Try.ntmps95
    go_wp2
    go_ret
    exact ⟨none, 0, rfl, OwnK.nil _ _, Below.refl _ _⟩
  · have h1 : (0 : Int) < n := by omega
    go_enter Try.func95, Try.ntmps95
    go_wp2_with (first
      | (at_builtin
         refine wpList_append_zn Try.underlying23 Try.underlying3 infoKid rfl (by decide) rfl (.tmp 20) (.tmp 21) rfl rfl rfl (k := n) h0 (by omega) (by omega) ?_
         intro c' w' h2 h3 h4 h5 h6
         have hle := h2
         have hcm := Lib.hid h3
         have hrow := Lib.hid h4
         have hb := Lib.hid h5
         have hsl : ∀ u, (Instr.slice 23 (.slice (some ⟨w.heap.size, 0, none⟩) n c') none (some (.int .i64 0)) none).run Try.prog u = .ok (.slice (some ⟨w.heap.size, 0, none⟩) 0 c') u := fun u => slice_kids _ n c' 0 (Nat.zero_le _) hle u
         clear h2 h3 h4 h5 h6))
    go_ret
    obtain ⟨cs, hr, hl⟩ := hrow.out
    exact ⟨_, c', rfl, ⟨by simp [cellsK], .inr ⟨w.heap.size, c', cs.toArray, rfl, Nat.le_refl _, hr, Nat.zero_le _, hcm.out, by simpa using hl, by simp [cellsK]⟩⟩, hb.out⟩

set_option maxRecDepth 100000 in
set_option maxHeartbeats 4000000 in
theorem concatK_any (q1 : Option Addr) (n1 c1 : Nat) (l1 : List KidD) (q2 : Option Addr) (n2 c2 : Nat) (l2 : List KidD) (b : Nat) (w : World) (h1 : KidsOn w q1 n1 c1 l1) (h2 : KidsOn w q2 n2 c2 l2) (hn : n1 ≤ 1000000) (hn2 : n2 ≤ 1000000) (hb : Boxed w b [.slice q1 n1 c1, .slice q2 n2 c2]) :
    Calls Try.prog 78 #[.slice (some ⟨b, 0, none⟩) 2 2] w (fun e w' => ∃ q' c', e = .returned (.slice q' (n1 + n2) c') ∧ OwnK w' w.heap.size (.slice q' (n1 + n2) c') (l1 ++ l2) ∧ Below w.heap.size w w') := by
  have x0 := hb.cell 0 rfl
  have x1 := hb.cell 1 rfl
  have y0 := Lib.hid x0
  have y1 := Lib.hid x1
  have hh1 := Lib.hid h1
  have hh2 := Lib.hid h2
  have e1 : IntKind.i64.wrap (n1 : Int) = n1 := IntWalk.i64_in _ (by omega)
  have e2 : IntKind.i64.wrap ((n1 : Int) + n2) = (n1 : Int) + n2 := IntWalk.i64_in _ (by omega)
  have i1 : ¬ (n1 : Int) < 0 := by omega
  have i2 : ¬ ((n1 : Int) + n2) < 0 := by omega
  have hgr := Lib.hid (growK_any (n1 + n2) (by omega) w)
  clear h1 h2 hb
  go_enter Try.func78, Try.ntmps78
  go_wp2
  go_loop [3, 11] (fun v3 v11 => ∃ s k : Int, v3 = .int .i64 s ∧ v11 = .int .i64 k ∧ ((k = 0 ∧ s = 0) ∨ (k = 1 ∧ s = n1) ∨ (k = 2 ∧ s = (n1 : Int) + n2))) (fun _ v11 => 2 - (RowKit.intOf v11).toNat)
  case atStart => exact ⟨0, 0, rfl, rfl, .inl ⟨rfl, rfl⟩⟩
  case round =>
    obtain ⟨s, k, rfl, rfl, hks⟩ := hrel
    rcases hks with ⟨rfl, rfl⟩ | ⟨rfl, rfl⟩ | ⟨rfl, rfl⟩
    · go_wp2
      go_round
      case rel => exact ⟨n1, 1, by go_num, by go_num, .inr (.inl ⟨rfl, rfl⟩)⟩
      case measure => simp [RowKit.intOf]
    · go_wp2
      go_round
      case rel => exact ⟨(n1 : Int) + n2, 2, by go_num, by go_num, .inr (.inr ⟨rfl, rfl⟩)⟩
      case measure => simp [RowKit.intOf]
    · clear x0 x1
      go_wp2_with fail
      refine Calls.mono (by have h := hgr.out; rwa [Int.natCast_add] at h) ?_
      rintro e w1 ⟨q0, c0, rfl, ho0, hb0⟩
      have ho0' := Lib.hid ho0
      have hb0' := Lib.hid hb0
      clear ho0 hb0 hgr
      go_wp2
      go_loopw [6, 27] (fun v6 v27 wr => ∃ k : Int, v27 = .int .i64 k ∧ ∃ q c n L, v6 = .slice q n c ∧ Hid (OwnK wr w.heap.size (.slice q n c) L) ∧ Hid (Below w.heap.size w wr) ∧ ((k = 0 ∧ n = 0 ∧ L = []) ∨ (k = 1 ∧ n = n1 ∧ L = l1) ∨ (k = 2 ∧ n = n1 + n2 ∧ L = l1 ++ l2))) (fun _ v27 _ => 2 - (RowKit.intOf v27).toNat)
      case atStart => exact ⟨0, rfl, q0, c0, 0, [], rfl, ho0'.out, hb0'.out, .inl ⟨rfl, rfl, rfl⟩⟩
      case round =>
        obtain ⟨k, rfl, q, c, n, L, rfl, ho, hbr, hks⟩ := hrel
        have x0 := cell_keeps hbr.out (Nat.le_refl _) y0.out
        have x1 := cell_keeps hbr.out (Nat.le_refl _) y1.out
        have r1 := Lib.hid (hh1.out.below hbr.out (Nat.le_refl _))
        have r2 := Lib.hid (hh2.out.below hbr.out (Nat.le_refl _))
        have hsz := Lib.hid hbr.out.size
        have hfar : Hid (∀ k, q.map (·.block) = some k → w.heap.size ≤ k) := fun k hk => by
          cases q with
          | none => simp at hk
          | some a => simp at hk; rw [← hk]; exact (ho.out.far a rfl).1
        rcases hks with ⟨rfl, rfl, rfl⟩ | ⟨rfl, rfl, rfl⟩ | ⟨rfl, rfl, rfl⟩
        · go_wp2_with (first
            | (at_builtin
               refine wpList_append_k Try.underlying23 infoKid rfl rfl (.tmp 31) (.tmp 32) rfl rfl rfl ho.out r1.out (by omega) (by omega) hsz.out ?_
               intro q' c' w' g1 g2 g3
               rw [Nat.zero_add] at g1
               have ho' := Lib.hid g1
               have hb' := Lib.hid (hbr.out.trans (grown_belowN g2 hsz.out hfar.out))
               clear g1 g2 g3))
          go_roundw
          case rel => exact ⟨1, by go_num, q', c', n1, _, rfl, ho'.out, hb'.out, .inr (.inl ⟨rfl, rfl, rfl⟩)⟩
          case measure => simp [RowKit.intOf]
        · go_wp2_with (first
            | (at_builtin
               refine wpList_append_k Try.underlying23 infoKid rfl rfl (.tmp 31) (.tmp 32) rfl rfl rfl ho.out r2.out (by omega) (by omega) hsz.out ?_
               intro q' c' w' g1 g2 g3
               have ho' := Lib.hid g1
               have hb' := Lib.hid (hbr.out.trans (grown_belowN g2 hsz.out hfar.out))
               clear g1 g2 g3))
          go_roundw
          case rel => exact ⟨2, by go_num, q', c', n + n2, _, rfl, ho'.out, hb'.out, .inr (.inr ⟨rfl, rfl, rfl⟩)⟩
          case measure => simp [RowKit.intOf]
        · go_wp2
          go_ret
          exact ⟨q, c, rfl, ho.out, hbr.out⟩

set_option maxRecDepth 100000 in
set_option maxHeartbeats 2000000 in
theorem halvesK_any (q : Option Addr) (n c i : Nat) (l : List KidD) (w : World) (hr : KidsOn w q n c l) (hi : i ≤ n) (hn : n ≤ 1000000) :
    Calls Try.prog 76 #[.slice q n c, .int .i64 i] w (fun e w' => ∃ q1 d1 q2 d2 B, e = .returned (.tuple #[.slice q1 i d1, .slice q2 (n - i) d2]) ∧ OwnK w' w.heap.size (.slice q1 i d1) (l.take i) ∧ OwnK w' B (.slice q2 (n - i) d2) (l.drop i) ∧ w.heap.size ≤ B ∧ (∀ a, q1 = some a → a.block < B) ∧ Below w.heap.size w w') := by
  have hrr := Lib.hid hr
  have hs1 := fun u => slice_kids q n c i hi hr.le u
  have hs2 := fun u => tail_K q n c i hi u
  obtain ⟨qt, hqt⟩ : ∃ x, (if c = i then q else q.map (·.add (i * 3))) = x := ⟨_, rfl⟩
  have hbh := Lib.hid (hr.behind hi)
  rw [hqt] at hs2 hbh
  have hf := Lib.hid (hr.front hi)
  clear hr hqt
  go_enter Try.func76, Try.ntmps76
  go_wp2_with fail
  refine wp_region_held (S := fun u => Below w.heap.size w u) (by kernel_rfl) ?_
  change wpAnyH _ _ _ _ _ _ _ _ (World.drew w)
  have hS0 : Below w.heap.size w (w.drew) := below_drew w
  generalize World.drew w = u0 at hS0 ⊢
  refine held_tk (i := 0) (dst := some 6) (v := .slice q n c) rfl rfl (.inl ⟨rfl, fun u hu => by go_simp⟩) hS0 ?_; go_frame
  refine held_tk (i := 1) (dst := some 7) (v := .int .i64 (i : Int)) rfl rfl (.inl ⟨rfl, fun u hu => by go_simp⟩) hS0 ?_; go_frame
  refine held_tk (i := 2) (dst := some 8) (v := .slice q i c) rfl rfl (.inl ⟨rfl, fun u hu => by go_simp⟩) hS0 ?_; go_frame
  refine held_tk (i := 4) (dst := some 10) (v := .slice q n c) rfl rfl (.inl ⟨rfl, fun u hu => by go_simp⟩) hS0 ?_; go_frame
  refine held_tk (i := 5) (dst := some 11) (v := .int .i64 (i : Int)) rfl rfl (.inl ⟨rfl, fun u hu => by go_simp⟩) hS0 ?_; go_frame
  refine held_tk (i := 6) (dst := some 12) (v := .slice qt (n - i) (c - i)) rfl rfl (.inl ⟨rfl, fun u hu => by go_simp⟩) hS0 ?_; go_frame
  refine held_call (i := 3) (dst := some 9) rfl rfl (by kernel_rfl) rfl (by go_simp) (cloneK_any q i c (l.take i) u0 (hf.out.below hS0 (Nat.le_refl _)) (by omega)) ?_
  rintro e u1 ⟨q1, d1, rfl, o1, b1⟩
  have o1' := Lib.hid o1
  have hS1 := Lib.hid (below_step b1 hS0)
  have hlo := Lib.hid hS0.size
  clear o1 b1 hS0
  refine ⟨_, rfl, hS1.out, ?_⟩; go_frame
  refine held_call (i := 7) (dst := some 13) rfl rfl (by kernel_rfl) rfl (by go_simp) (cloneK_any qt (n - i) (c - i) (l.drop i) u1 (hbh.out.below hS1.out (Nat.le_refl _)) (by omega)) ?_
  rintro e u2 ⟨q2, d2, rfl, o2, b2⟩
  have o2' := Lib.hid o2
  have o3' := Lib.hid (o1'.out.below b2)
  have hS2 := Lib.hid (below_step b2 hS1.out)
  clear o2 b2
  refine ⟨_, rfl, hS2.out, ?_⟩; go_frame
  refine held_tk (i := 8) (dst := some 4) (v := .slice q1 i d1) rfl rfl (.inl ⟨rfl, fun u hu => by go_simp⟩) hS2.out ?_; go_frame
  refine held_tk (i := 9) (dst := some 5) (v := .slice q2 (n - i) d2) rfl rfl (.inl ⟨rfl, fun u hu => by go_simp⟩) hS2.out ?_; go_frame
  refine wpAnyH_done (by kernel_rfl) ?_ _
  go_wp2
  refine bodyPost_ret (v := .tuple #[.slice q1 i d1, .slice q2 (n - i) d2]) (by simp [results, Try.results76, go_sem]) rfl ?_
  exact ⟨q1, d1, q2, d2, u1.heap.size, rfl, o3'.out.mono hlo.out, o2'.out, hS1.out.size, fun a ha => (o1'.out.far a ha).2, hS2.out⟩
end Go.Proofs.Ytaiepdhmlmnggaa
