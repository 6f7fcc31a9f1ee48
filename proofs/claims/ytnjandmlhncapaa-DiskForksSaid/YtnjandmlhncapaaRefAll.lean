/- The document's own disk (bursaryref02): begin, Says, There, with, Read, Write, by their contracts (merged of several texts). -/
import Derived.Test.YtnjandmlhncapaaElems
import Derived.Test.YtnjandmlhncapaaBlk
import Derived.Test.YtnjandmlhncapaaNilB
import Derived.Great.FillDense

/-! The document's own disk (bursaryref02), by its contracts. -/
namespace Go.Proofs.Ytnjandmlhncapaa
open Go.RowKit

/-- a disk of the document's, as a value -/
def dV (q : Option Addr) (n c : Nat) (ops armed failing : Int) (dead : Bool) : Value := .agg #[.slice q n c, .int .i64 ops, .int .i64 armed, .int .i64 failing, .bool dead]

def bFail (failing : Int) : Int := if failing ≥ 0 then failing - 1 else failing
def bErr (armed failing : Int) (reads : Bool) : Int := if reads = false ∧ armed = 0 then 9 else if failing = 0 then 8 else 0
def bArmed (armed failing : Int) (reads : Bool) : Int := if reads = false ∧ armed > 0 ∧ failing ≠ 0 then armed - 1 else armed
def bDead (dead : Bool) (armed : Int) (reads : Bool) : Bool := if reads = false ∧ armed = 0 then true else dead

set_option maxHeartbeats 2000000 in
theorem begin_any (q : Option Addr) (n c : Nat) (ops armed failing : Int) (dead reads : Bool) (w : World) (ho : 0 ≤ ops) (ho1 : ops < 4611686018427387904) (ha : armed < 9223372036854775808) (ha0 : -4611686018427387904 < armed) (hf : failing < 9223372036854775808) (hf0 : -4611686018427387904 < failing) :
    Calls Try.prog 59 #[.agg #[.slice q n c, .int .i64 ops, .int .i64 armed, .int .i64 failing, .bool dead], .bool reads] w (fun e w' => e = .returned (.tuple #[.agg #[.slice q n c, .int .i64 (ops + 1), .int .i64 (bArmed armed failing reads), .int .i64 (bFail failing), .bool (bDead dead armed reads)], .int .i64 (bErr armed failing reads)]) ∧ Below w.heap.size w w') := by
  rcases (show failing < 0 ∨ failing = 0 ∨ 0 < failing by omega) with hf1 | hf1 | hf1
  all_goals rcases (show armed < 0 ∨ armed = 0 ∨ 0 < armed by omega) with ha1 | ha1 | ha1
  all_goals cases reads
  all_goals first | subst hf1 | skip
  all_goals first | subst ha1 | skip
  all_goals
    go_enter Try.func59, Try.ntmps59
    go_wp2
    go_returns
    refine ⟨?_, by go_grown⟩
    first
      | rfl
      | (simp [bArmed, bFail, bErr, bDead]; done)
      | (simp [bArmed, bFail, bErr, bDead]; omega)
      | (simp only [bArmed, bFail, bErr, bDead]; repeat' (first | rw [if_pos (by simp; done)] | rw [if_pos (by simp; omega)] | rw [if_neg (by simp; done)] | rw [if_neg (by simp; omega)]))
      | skip

end Go.Proofs.Ytnjandmlhncapaa

/-! Says, There (bursaryref02), by their contracts. -/
namespace Go.Proofs.Ytnjandmlhncapaa
open Go.RowKit

/-- 64 cells of one value each -/
def Blk (b : List Value) : Prop := b.length = 64 ∧ ∀ v ∈ b, v.oneCell' = true
theorem blk_blk (b : Int) : Blk (blk b) := ⟨blk_len b, blk_one b⟩
theorem Blk.len {b : List Value} (h : Blk b) : b.length = 64 := h.1
theorem Blk.one {b : List Value} (h : Blk b) : ∀ v ∈ b, v.oneCell' = true := h.2
theorem Blk.size {b : List Value} (h : Blk b) : (Try.prog.info? 37).map (·.size) = some b.length := by rw [h.1]; exact size37
def secV (h c : List Value) (is : Bool) : List Value := h ++ (c ++ [.bool is])

theorem fits {b : List Value} (h : Blk b) : 0 + b.length ≤ (blk 0).length := by rw [blk_len, h.1]; decide
theorem splice_full {b : List Value} (h : Blk b) : splice (blk 0) 0 b = b := by
  unfold splice
  rw [List.take_zero, List.nil_append, Nat.zero_add, h.1, List.drop_of_length_le (by rw [blk_len]; exact Nat.le_refl _), List.append_nil]

theorem there_any (q : Option Addr) (n c : Nat) (ops armed failing i : Int) (dead : Bool) (w : World) :
    Calls Try.prog 58 #[.agg #[.slice q n c, .int .i64 ops, .int .i64 armed, .int .i64 failing, .bool dead], .int .i64 i] w (fun e w' => e = .returned (.bool (decide (0 ≤ i ∧ i < n))) ∧ Below w.heap.size w w') := by
  by_cases h1 : 0 ≤ i
  · by_cases h2 : i < n
    · go_enter Try.func58, Try.ntmps58
      go_wp2
      go_ret
      refine ⟨?_, by go_grown⟩
      simp [h1, h2]
    · go_enter Try.func58, Try.ntmps58
      go_wp2
      go_ret
      refine ⟨?_, by go_grown⟩
      simp; omega
  · go_enter Try.func58, Try.ntmps58
    go_wp2
    go_ret
    refine ⟨?_, by go_grown⟩
    simp; omega

set_option maxRecDepth 100000 in
set_option maxHeartbeats 1000000 in
theorem says_any (bH bC : List Value) (is : Bool) (w : World) (hh : Blk bH) (hc : Blk bC) :
    Calls Try.prog 60 #[.agg (secV bH bC is).toArray] w (fun e w' => e = .returned (.agg (if is then bC else bH).toArray) ∧ Below w.heap.size w w') := by
  have hr1 : Hid (RowV 47 (w.alloc (.cells (secV bH bC is).toArray 47)) w.heap.size (secV bH bC is)) := RowV.made _ _
  have hr2 : Hid (RowV 47 ((w.alloc (.cells (secV bH bC is).toArray 47)).alloc (.cells (blk 0).toArray 37)) w.heap.size (secV bH bC is)) := hr1.out.block (heap_alloc_old _ _ (by simp))
  have ho2 : Hid (RowV 37 ((w.alloc (.cells (secV bH bC is).toArray 47)).alloc (.cells (blk 0).toArray 37)) (w.heap.size + 1) (blk 0)) := by
    have := RowV.made (T := 37) (w.alloc (.cells (secV bH bC is).toArray 47)) (blk 0)
    rw [World.size_alloc] at this
    exact this
  have cis : ((w.alloc (.cells (secV bH bC is).toArray 47)).alloc (.cells (blk 0).toArray 37)).cell? ⟨w.heap.size, 128, none⟩ = some (.bool is) := by
    rw [hr2.out.cell 128]
    unfold secV
    rw [List.getElem?_append_right (by rw [hh.1]; decide), hh.1, List.getElem?_append_right (by rw [hc.1]; decide), hc.1]
    rfl
  have bh := Lib.hid hh
  have bc := Lib.hid hc
  clear hh hc
  cases is
  · go_enter Try.func60, Try.ntmps60
    go_wp2_with (first
      | (with_reducible refine wpList_alloc_z rfl 37 rfl alloc37 ?_)
      | (with_reducible refine wpList_load_at rfl 37 (.tmp 7) rfl Try.underlying37 rfl (vs := bH) bh.out.size rfl (hr2.out.part (o := 0) (pre := []) (rest := bC ++ [.bool false]) rfl rfl) ?_)
      | (with_reducible refine wpList_store_at rfl 37 (.tmp 2) (.tmp 8) rfl rfl rfl ho2.out bh.out.size (fits bh.out) bh.out.one ?_; intro w3 h3 hg3; rw [splice_full bh.out] at h3)
      | (refine bodyPost_ret (results_cell_row (P := Try.prog) Try.results60 _ _ (w.heap.size + 1) 37 bH.toArray (0, 0) _ rfl h3 Try.underlying37 rfl (by rw [List.size_toArray]; exact bh.out.size)) rfl ⟨rfl, ?_⟩))
    exact (((Below.refl _ _).alloc (Nat.le_refl _) _).alloc (by simp) _).grown hg3 (by simp; omega) (fun k e => by cases e; omega)
  · go_enter Try.func60, Try.ntmps60
    go_wp2_with (first
      | (with_reducible refine wpList_alloc_z rfl 37 rfl alloc37 ?_)
      | (with_reducible refine wpList_load_at rfl 37 (.tmp 5) rfl Try.underlying37 rfl (vs := bC) bc.out.size rfl (hr2.out.part (o := 64) (pre := bH) (rest := [.bool true]) rfl bh.out.len) ?_)
      | (with_reducible refine wpList_store_at rfl 37 (.tmp 2) (.tmp 6) rfl rfl rfl ho2.out bc.out.size (fits bc.out) bc.out.one ?_; intro w3 h3 hg3; rw [splice_full bc.out] at h3)
      | (refine bodyPost_ret (results_cell_row (P := Try.prog) Try.results60 _ _ (w.heap.size + 1) 37 bC.toArray (0, 0) _ rfl h3 Try.underlying37 rfl (by rw [List.size_toArray]; exact bc.out.size)) rfl ⟨rfl, ?_⟩))
    exact (((Below.refl _ _).alloc (Nat.le_refl _) _).alloc (by simp) _).grown hg3 (by simp; omega) (fun k e => by cases e; omega)

end Go.Proofs.Ytnjandmlhncapaa

/-! with (bursaryref02), by its contract. -/
namespace Go.Proofs.Ytnjandmlhncapaa
open Go.RowKit

theorem info47 : (Try.prog.info? 47).map (fun i => (i.zero, i.size, i.bytes)) = some (some (.agg (secV (blk 0) (blk 0) false).toArray), 129, 129) := by kernel_rfl
theorem size47 : (Try.prog.info? 47).map (·.size) = some 129 := by kernel_rfl
theorem size31 : (Try.prog.info? 31).map (·.size) = some 5 := by kernel_rfl
theorem size31b (a b c d e : Value) : (Try.prog.info? 31).map (·.size) = some [a, b, c, d, e].length := size31
theorem fit31 (a b c d e a' b' c' d' e' : Value) : 0 + [a, b, c, d, e].length ≤ [a', b', c', d', e'].length := Nat.le_refl 5
theorem one31 (q : Option Addr) (n c : Nat) (ops armed failing : Int) (dead : Bool) : ∀ v ∈ [Value.slice q n c, .int .i64 ops, .int .i64 armed, .int .i64 failing, .bool dead], v.oneCell' = true := by
  intro v hv
  simp only [List.mem_cons, List.not_mem_nil, or_false] at hv
  rcases hv with rfl | rfl | rfl | rfl | rfl <;> rfl
theorem part31 (l : List Value) : l = [] ++ (l ++ []) := by simp
theorem sec_len {bH bC : List Value} {is : Bool} (h : Blk bH) (k : Blk bC) : (secV bH bC is).length = 129 := by
  unfold secV; rw [List.length_append, List.length_append, h.1, k.1]; rfl
theorem zero47 : (Value.agg (secV (blk 0) (blk 0) false).toArray).cells.size = 129 := by
  show (secV (blk 0) (blk 0) false).toArray.size = 129
  rw [List.size_toArray, sec_len (blk_blk 0) (blk_blk 0)]
theorem sec_one {bH bC : List Value} {is : Bool} (h : Blk bH) (k : Blk bC) : ∀ v ∈ secV bH bC is, v.oneCell' = true := by
  intro v hv
  rcases List.mem_append.1 hv with hv | hv
  · exact h.2 v hv
  · rcases List.mem_append.1 hv with hv | hv
    · exact k.2 v hv
    · rw [List.mem_singleton.1 hv]; rfl
theorem sec_size {bH bC : List Value} {is : Bool} (h : Blk bH) (k : Blk bC) : (Try.prog.info? 47).map (·.size) = some (secV bH bC is).length := by rw [sec_len h k]; exact size47

abbrev dL (q : Option Addr) (n c : Nat) (ops armed failing : Int) (dead : Bool) : List Value := [.slice q n c, .int .i64 ops, .int .i64 armed, .int .i64 failing, .bool dead]
theorem dL_one (q : Option Addr) (n c : Nat) (ops armed failing : Int) (dead : Bool) : ∀ v ∈ dL q n c ops armed failing dead, v.oneCell' = true := by
  intro v hv
  simp only [dL, List.mem_cons, List.not_mem_nil, or_false] at hv
  rcases hv with rfl | rfl | rfl | rfl | rfl <;> rfl

def WithPost (w : World) (n : Nat) (L : List (List Value)) (ops armed failing : Int) (dead : Bool) (e : Ending) (w' : World) : Prop :=
  ∃ q c, e = .returned (.agg #[.slice q n c, .int .i64 ops, .int .i64 armed, .int .i64 failing, .bool dead]) ∧ OwnE 47 129 w' w.heap.size (.slice q n c) L ∧ Below w.heap.size w w'

/-- the call's own three variables -/
structure Three (w wr : World) (D S Z : List Value) : Prop where
  below : Below w.heap.size w wr
  d : RowV 31 wr w.heap.size D
  s : RowV 47 wr (w.heap.size + 1) S
  z : RowV 31 wr (w.heap.size + 1 + 1) Z
  size : w.heap.size + 1 + 1 < wr.heap.size

theorem Three.start (w : World) (D S Z : List Value) : Three w (((w.alloc (.cells D.toArray 31)).alloc (.cells S.toArray 47)).alloc (.cells Z.toArray 31)) D S Z := by
  refine ⟨(((Below.refl _ _).alloc (Nat.le_refl _) _).alloc (by simp) _).alloc (by simp; omega) _, ?_, ?_, ?_, by simp⟩
  · exact ((RowV.made w _).block (heap_alloc_old _ _ (by simp))).block (heap_alloc_old _ _ (by simp; omega))
  · have h := (RowV.made (T := 47) (w.alloc (.cells D.toArray 31)) S).block (heap_alloc_old _ (.cells Z.toArray 31) (by simp))
    rw [World.size_alloc] at h
    exact h
  · have h := RowV.made (T := 31) ((w.alloc (.cells D.toArray 31)).alloc (.cells S.toArray 47)) Z
    rw [World.size_alloc, World.size_alloc] at h
    exact h

theorem Three.kept {w wr w' : World} {D S Z : List Value} {g : Nat} (h : Three w wr D S Z) (hg : wr.grownBy w' (some g)) (hne : w.heap.size + 1 + 1 < g) : Three w w' D S Z :=
  ⟨h.below.grown hg h.below.size (fun k e => by cases e; omega), h.d.kept hg (by omega), h.s.kept hg (by omega), h.z.kept hg (by omega), Nat.lt_of_lt_of_le h.size hg.size⟩
theorem Three.alloc {w wr : World} {D S Z : List Value} (h : Three w wr D S Z) (A : Obj) : Three w (wr.alloc A) D S Z :=
  ⟨h.below.alloc h.below.size A, h.d.block (heap_alloc_old _ _ h.d.lt), h.s.block (heap_alloc_old _ _ h.s.lt), h.z.block (heap_alloc_old _ _ h.z.lt), by have := h.size; simp; omega⟩
theorem Three.keptN {w wr w' : World} {D S Z : List Value} (h : Three w wr D S Z) (hg : Below wr.heap.size wr w') : Three w w' D S Z :=
  ⟨h.below.trans (hg.mono h.below.size), h.d.below hg, h.s.below hg, h.z.below hg, Nat.lt_of_lt_of_le h.size hg.size⟩

theorem Three.setD {w wr : World} {q : Option Addr} {n c : Nat} {ops armed failing : Int} {dead : Bool} {S Z : List Value} (h : Three w wr (dL q n c ops armed failing dead) S Z) (v : Value) : Three w (wr.setCell ⟨w.heap.size, 0, none⟩ v) [v, .int .i64 ops, .int .i64 armed, .int .i64 failing, .bool dead] S Z := by
  have hg := setCell_grown wr w.heap.size 0 v
  exact ⟨h.below.setCell (p := ⟨w.heap.size, 0, none⟩) (Nat.le_refl _) _, h.d.set 0 v, h.s.kept hg (by omega), h.z.kept hg (by omega), by have := h.size; simpa [World.setCell] using this⟩

set_option maxRecDepth 100000 in
set_option maxHeartbeats 1000000 in
theorem with_any (q : Option Addr) (n c : Nat) (ops armed failing : Int) (dead : Bool) (i : Nat) (L : List (List Value)) (bH bC : List Value) (is : Bool) (w : World) (hv : HoldsE w (.slice q n c) L) (hE : Each 129 L) (hn : n ≤ 4096) (hi : i < n) (hh : Blk bH) (hc : Blk bC) :
    Calls Try.prog 61 #[.agg #[.slice q n c, .int .i64 ops, .int .i64 armed, .int .i64 failing, .bool dead], .int .i64 i, .agg (secV bH bC is).toArray] w (WithPost w n (L.set i (secV bH bC is)) ops armed failing dead) := by
  have hv0 := Lib.hid hv
  have hE0 := Lib.hid hE
  have bh := Lib.hid hh
  have bc := Lib.hid hc
  clear hv hE hh hc
  have t0 := Lib.hid (Three.start w (dL q n c ops armed failing dead) (secV bH bC is) (dL none 0 0 0 0 0 false))
  have t1 := Lib.hid (t0.out.alloc (.cells #[] 47))
  have ho1 : Hid (OwnE 47 129 ((((w.alloc (.cells (dL q n c ops armed failing dead).toArray 31)).alloc (.cells (secV bH bC is).toArray 47)).alloc (.cells (dL none 0 0 0 0 0 false).toArray 31)).alloc (.cells #[] 47)) (w.heap.size + 1 + 1 + 1) (.slice (some ⟨w.heap.size + 1 + 1 + 1, 0, none⟩) 0 0) []) := by
    have h := OwnE.empty (T := 47) (s := 129) (w := (((w.alloc (.cells (dL q n c ops armed failing dead).toArray 31)).alloc (.cells (secV bH bC is).toArray 47)).alloc (.cells (dL none 0 0 0 0 0 false).toArray 31))) (base := w.heap.size + 1 + 1 + 1) (by simp)
    rw [World.size_alloc, World.size_alloc, World.size_alloc] at h
    exact h
  have hv1 := Lib.hid (holdsE_below hv0.out t1.out.below (Nat.le_refl _))
  go_enter Try.func61, Try.ntmps61
  go_wp2_with (first
    | ((with_reducible refine wpList_append_elems Try.underlying29 info47 zero47 (by decide) rfl (.tmp 7) (.tmp 9) rfl rfl rfl ho1.out hv1.out hE0.out (by omega) (by omega) (by simp) ?_)
       intro q2 c2 w2 ho hg
       have t2 := Lib.hid (t1.out.kept (g := w.heap.size + 1 + 1 + 1) hg (by omega))
       have ho2 : Hid (OwnE 47 129 w2 (w.heap.size + 1 + 1 + 1) (.slice q2 n c2) L) := by rw [Nat.zero_add, List.nil_append] at ho; exact ho
       obtain ⟨g, cs, hq, hbase, hrow, hfit, hback⟩ := ho2.out.store hi (sec_len (is := is) bh.out bc.out) (sec_one bh.out bc.out)
       subst hq
       have d0 : w2.cell? ⟨w.heap.size, 0, none⟩ = some (.slice q n c) := t2.out.d.cell 0
       have f0 := t2.out.d.free 0
       have t3 := Lib.hid (t2.out.setD (.slice (some ⟨g, 0, none⟩) n c2))
       have hr3 := Lib.hid (hrow.kept (setCell_grown w2 w.heap.size 0 (.slice (some ⟨g, 0, none⟩) n c2)) (by omega))
       have hfit3 := Lib.hid hfit
       have hback3 := Lib.hid hback
       have hbase3 := Lib.hid hbase
       have cl : g ≠ w.heap.size := by omega
       clear ho hg ho1 hv1 t1 t0 hrow hfit hback hbase)
    | (with_reducible refine wpList_load_at rfl 47 (.tmp 5) rfl Try.underlying47 rfl (vs := secV bH bC is) (sec_size bh.out bc.out) rfl (t3.out.s.part (o := 0) (pre := []) (rest := []) (by simp) rfl) ?_)
    | ((with_reducible refine wpList_store_at rfl 47 (.tmp 16) (.tmp 15) rfl (o := i * 129) rfl rfl hr3.out (sec_size bh.out bc.out) hfit3.out (sec_one bh.out bc.out) ?_)
       intro w4 hrow4 hg4
       have t4 := Lib.hid (t3.out.kept hg4 (by have := hbase3.out; omega))
       have ho4 := Lib.hid (hback3.out w4 hrow4)
       clear hrow4 hg4)
    | (with_reducible refine wpList_load_at rfl 31 (.tmp 3) rfl Try.underlying31 rfl (vs := [.slice (some ⟨g, 0, none⟩) n c2, .int .i64 ops, .int .i64 armed, .int .i64 failing, .bool dead]) (size31b _ _ _ _ _) rfl (t4.out.d.part (o := 0) (pre := []) (rest := []) (part31 _) rfl) ?_)
    | ((with_reducible refine wpList_store_at rfl 31 (.tmp 6) (.tmp 17) rfl (o := 0) rfl rfl t4.out.z (size31b _ _ _ _ _) (fit31 _ _ _ _ _ _ _ _ _ _) (one31 (some ⟨g, 0, none⟩) n c2 ops armed failing dead) ?_)
       intro w5 hrow5 hg5)
    | (refine bodyPost_ret (results_cell_row (P := Try.prog) Try.results61 _ _ (w.heap.size + 1 + 1) 31 #[.slice (some ⟨g, 0, none⟩) n c2, .int .i64 ops, .int .i64 armed, .int .i64 failing, .bool dead] (0, 0) _ rfl hrow5 Try.underlying31 rfl size31) rfl ?_))
  have hb3 := hbase3.out
  refine ⟨some ⟨g, 0, none⟩, c2, rfl, (ho4.out.kept fun a ha => ?_).lower (by omega), t4.out.below.grown hg5 t4.out.below.size (fun k e => by cases e; omega)⟩
  cases ha
  exact hg5.block g (ho4.out.holds.2.2 _ rfl).2 (by simp; omega)

end Go.Proofs.Ytnjandmlhncapaa

/-! Read (bursaryref02), by its contract: the calls that end at once, and the one that fails. -/
namespace Go.Proofs.Ytnjandmlhncapaa
open Go.RowKit

theorem results_disk_blk_tmp {f : Func} {r s u : Tmp} (h : f.results = #[.cell r 31, .cell s 37, .tmp u]) (tmps : Array Value) (w : World) (g k : Nat) (a1 a2 a3 a4 a5 : Value) (b : List Value) (hb : Blk b)
    (hp : tmps.getD r undef = .pointer (some ⟨g, 0, none⟩)) (hr : RowV 31 w g [a1, a2, a3, a4, a5]) (hq : tmps.getD s undef = .pointer (some ⟨k, 0, none⟩)) (hs : RowV 37 w k b) (v : Value) (hv : tmps.getD u undef = v) :
    (results f tmps).run Try.prog w = .ok (.tuple #[.agg #[a1, a2, a3, a4, a5], .agg b.toArray, v]) w := by
  have h1 := run_loadVar_row (P := Try.prog) w g 31 31 #[a1, a2, a3, a4, a5] (0, 0) _ hr Try.underlying31 rfl size31
  have h2 := run_loadVar_row (P := Try.prog) w k 37 37 b.toArray (0, 0) _ hs Try.underlying37 rfl (by rw [List.size_toArray]; exact hb.size)
  have hp' : tmps[r]?.getD undef = .pointer (some ⟨g, 0, none⟩) := by simpa using hp
  have hq' : tmps[s]?.getD undef = .pointer (some ⟨k, 0, none⟩) := by simpa using hq
  have hv' : tmps[u]?.getD undef = v := by simpa using hv
  simp [results, h, hp', hq', hv', asAddr, h1, h2, Sem.run_bind, Result.andThen]

/-- the call's own three variables: the disk, and what it returns -/
structure RRel (w wr : World) (D R B : List Value) : Prop where
  below : Below w.heap.size w wr
  d : RowV 31 wr w.heap.size D
  r : RowV 31 wr (w.heap.size + 1) R
  b : RowV 37 wr (w.heap.size + 1 + 1) B

theorem RRel.start (w : World) (D R B : List Value) : RRel w (((w.alloc (.cells D.toArray 31)).alloc (.cells R.toArray 31)).alloc (.cells B.toArray 37)) D R B := by
  refine ⟨(((Below.refl _ _).alloc (Nat.le_refl _) _).alloc (by simp) _).alloc (by simp; omega) _, ?_, ?_, ?_⟩
  · exact ((RowV.made w _).block (heap_alloc_old _ _ (by simp))).block (heap_alloc_old _ _ (by simp; omega))
  · have h := (RowV.made (T := 31) (w.alloc (.cells D.toArray 31)) R).block (heap_alloc_old _ (.cells B.toArray 37) (by simp))
    rw [World.size_alloc] at h
    exact h
  · have h := RowV.made (T := 37) ((w.alloc (.cells D.toArray 31)).alloc (.cells R.toArray 31)) B
    rw [World.size_alloc, World.size_alloc] at h
    exact h

theorem RRel.putR {w wr w' : World} {D R B R' : List Value} (h : RRel w wr D R B) (hr : RowV 31 w' (w.heap.size + 1) R') (hg : wr.grownBy w' (some (w.heap.size + 1))) : RRel w w' D R' B :=
  ⟨h.below.grown hg h.below.size (fun k e => by cases e; omega), h.d.kept hg (by omega), hr, h.b.kept hg (by omega)⟩
theorem RRel.putB {w wr w' : World} {D R B B' : List Value} (h : RRel w wr D R B) (hr : RowV 37 w' (w.heap.size + 1 + 1) B') (hg : wr.grownBy w' (some (w.heap.size + 1 + 1))) : RRel w w' D R B' :=
  ⟨h.below.grown hg h.below.size (fun k e => by cases e; omega), h.d.kept hg (by omega), h.r.kept hg (by omega), hr⟩
theorem RRel.putD {w wr w' : World} {D R B D' : List Value} (h : RRel w wr D R B) (hr : RowV 31 w' w.heap.size D') (hg : wr.grownBy w' (some w.heap.size)) : RRel w w' D' R B :=
  ⟨h.below.grown hg h.below.size (fun k e => by cases e; omega), hr, h.r.kept hg (by omega), h.b.kept hg (by omega)⟩
theorem RRel.stay {w wr w' : World} {D R B : List Value} (h : RRel w wr D R B) (hg : Below wr.heap.size wr w') : RRel w w' D R B :=
  ⟨h.below.trans (hg.mono h.below.size), h.d.below hg, h.r.below hg, h.b.below hg⟩

theorem d5_splice (a b c d e a' b' c' d' e' : Value) : splice [a', b', c', d', e'] 0 [a, b, c, d, e] = [a, b, c, d, e] := rfl

set_option maxRecDepth 100000 in
set_option maxHeartbeats 1000000 in
theorem rread_dead (q : Option Addr) (n c : Nat) (ops armed failing i : Int) (w : World) :
    Calls Try.prog 35 #[.agg #[.slice q n c, .int .i64 ops, .int .i64 armed, .int .i64 failing, .bool true], .int .i64 i] w (fun e w' => e = .returned (.tuple #[.agg #[.slice q n c, .int .i64 ops, .int .i64 armed, .int .i64 failing, .bool true], agg z64, .int .i64 9]) ∧ Below w.heap.size w w') := by
  have t0 := Lib.hid (RRel.start w (dL q n c ops armed failing true) (dL none 0 0 0 0 0 false) (bl z64))
  have c4 : (((w.alloc (.cells (dL q n c ops armed failing true).toArray 31)).alloc (.cells (dL none 0 0 0 0 0 false).toArray 31)).alloc (.cells (bl z64).toArray 37)).cell? ⟨w.heap.size, 4, none⟩ = some (.bool true) := t0.out.d.cell 4
  go_enter Try.func35, Try.ntmps35
  go_wp2_with (first
    | (with_reducible refine wpList_alloc_z rfl 37 rfl alloc37z ?_)
    | (refine wpList_build_z rfl rfl ?_)
    | (with_reducible refine wpList_load_at rfl 31 (.tmp 2) rfl Try.underlying31 rfl (vs := dL q n c ops armed failing true) (size31b _ _ _ _ _) rfl (t0.out.d.part (o := 0) (pre := []) (rest := []) (part31 _) rfl) ?_)
    | ((with_reducible refine wpList_store_at rfl 31 (.tmp 4) (.tmp 11) rfl (o := 0) rfl rfl t0.out.r (size31b _ _ _ _ _) (fit31 _ _ _ _ _ _ _ _ _ _) (one31 q n c ops armed failing true) ?_)
       intro w5 h5 hg5
       rw [d5_splice] at h5
       have t5 := Lib.hid (t0.out.putR h5 hg5)
       clear h5 hg5)
    | ((with_reducible refine wpList_store_at rfl 37 (.tmp 5) (.tmp 12) rfl (o := 0) rfl rfl t5.out.b (bl_size z64_len) (bl_fits z64_len z64_len) (bl_one z64) ?_)
       intro w6 h6 hg6
       rw [bl_splice z64_len z64_len] at h6
       have t6 := Lib.hid (t5.out.putB h6 hg6)
       clear h6 hg6)
    | (refine bodyPost_ret (results_disk_blk_tmp (r := 4) (s := 5) (u := 6) Try.results35 _ _ (w.heap.size + 1) (w.heap.size + 1 + 1) _ _ _ _ _ (bl z64) ⟨by rw [bl_len, z64_len], bl_one z64⟩ rfl t6.out.r rfl t6.out.b _ rfl) rfl ⟨rfl, ?_⟩))
  exact t6.out.below

end Go.Proofs.Ytnjandmlhncapaa

/-! Read (bursaryref02), by its contract: the calls that reach an operation. -/
namespace Go.Proofs.Ytnjandmlhncapaa
open Go.RowKit

theorem begin_read (q : Option Addr) (n c : Nat) (ops armed failing : Int) (w : World) (ho : 0 ≤ ops) (ho1 : ops < 4611686018427387904) (ha : armed < 9223372036854775808) (ha0 : -4611686018427387904 < armed) (hf : failing < 9223372036854775808) (hf0 : -4611686018427387904 < failing) :
    Calls Try.prog 59 #[.agg #[.slice q n c, .int .i64 ops, .int .i64 armed, .int .i64 failing, .bool false], .bool true] w (fun e w' => e = .returned (.tuple #[.agg #[.slice q n c, .int .i64 (ops + 1), .int .i64 armed, .int .i64 (bFail failing), .bool false], .int .i64 (if failing = 0 then 8 else 0)]) ∧ Below w.heap.size w w') := by
  have h := begin_any q n c ops armed failing false true w ho ho1 ha ha0 hf hf0
  have h1 : bArmed armed failing true = armed := by simp [bArmed]
  have h2 : bDead false armed true = false := by simp [bDead]
  have h3 : bErr armed failing true = if failing = 0 then 8 else 0 := by simp [bErr]
  rw [h1, h2, h3] at h
  exact h

set_option maxRecDepth 100000 in
set_option maxHeartbeats 1000000 in
theorem rread_arg (q : Option Addr) (n c : Nat) (ops armed failing i : Int) (w : World) (hi : ¬(0 ≤ i ∧ i < n)) :
    Calls Try.prog 35 #[.agg #[.slice q n c, .int .i64 ops, .int .i64 armed, .int .i64 failing, .bool false], .int .i64 i] w (fun e w' => e = .returned (.tuple #[.agg #[.slice q n c, .int .i64 ops, .int .i64 armed, .int .i64 failing, .bool false], agg z64, .int .i64 2]) ∧ Below w.heap.size w w') := by
  have t0 := Lib.hid (RRel.start w (dL q n c ops armed failing false) (dL none 0 0 0 0 0 false) (bl z64))
  have c4 : (((w.alloc (.cells (dL q n c ops armed failing false).toArray 31)).alloc (.cells (dL none 0 0 0 0 0 false).toArray 31)).alloc (.cells (bl z64).toArray 37)).cell? ⟨w.heap.size, 4, none⟩ = some (.bool false) := t0.out.d.cell 4
  have hd : decide (0 ≤ i ∧ i < n) = false := decide_eq_false hi
  clear hi
  go_enter Try.func35, Try.ntmps35
  go_wp2_with (first
    | (with_reducible refine wpList_alloc_z rfl 37 rfl alloc37z ?_)
    | (refine wpList_build_z rfl rfl ?_)
    | (go_at_call 58; refine (there_any q n c ops armed failing i false _).mono ?_; rintro e w3 ⟨rfl, hb3⟩; rw [hd]
       have t3 := Lib.hid (t0.out.stay hb3)
       clear hb3)
    | (with_reducible refine wpList_load_at rfl 31 (.tmp 2) rfl Try.underlying31 rfl (vs := dL q n c ops armed failing false) (size31b _ _ _ _ _) rfl (t3.out.d.part (o := 0) (pre := []) (rest := []) (part31 _) rfl) ?_)
    | (with_reducible refine wpList_load_at rfl 31 (.tmp 2) rfl Try.underlying31 rfl (vs := dL q n c ops armed failing false) (size31b _ _ _ _ _) rfl (t0.out.d.part (o := 0) (pre := []) (rest := []) (part31 _) rfl) ?_)
    | ((with_reducible refine wpList_store_at rfl 31 (.tmp 4) (.tmp 18) rfl (o := 0) rfl rfl t3.out.r (size31b _ _ _ _ _) (fit31 _ _ _ _ _ _ _ _ _ _) (one31 q n c ops armed failing false) ?_)
       intro w5 h5 hg5
       rw [d5_splice] at h5
       have t5 := Lib.hid (t3.out.putR h5 hg5)
       clear h5 hg5)
    | ((with_reducible refine wpList_store_at rfl 37 (.tmp 5) (.tmp 19) rfl (o := 0) rfl rfl t5.out.b (bl_size z64_len) (bl_fits z64_len z64_len) (bl_one z64) ?_)
       intro w6 h6 hg6
       rw [bl_splice z64_len z64_len] at h6
       have t6 := Lib.hid (t5.out.putB h6 hg6)
       clear h6 hg6)
    | (refine bodyPost_ret (results_disk_blk_tmp (r := 4) (s := 5) (u := 6) Try.results35 _ _ (w.heap.size + 1) (w.heap.size + 1 + 1) _ _ _ _ _ (bl z64) ⟨by rw [bl_len, z64_len], bl_one z64⟩ rfl t6.out.r rfl t6.out.b _ rfl) rfl ⟨rfl, ?_⟩))
  exact t6.out.below

set_option maxRecDepth 100000 in
set_option maxHeartbeats 1000000 in
theorem rread_fail (q : Option Addr) (n c : Nat) (ops armed i : Int) (w : World) (hi : 0 ≤ i ∧ i < n) (ho : 0 ≤ ops) (ho1 : ops < 4611686018427387904) (ha : armed < 9223372036854775808) (ha0 : -4611686018427387904 < armed) :
    Calls Try.prog 35 #[.agg #[.slice q n c, .int .i64 ops, .int .i64 armed, .int .i64 0, .bool false], .int .i64 i] w (fun e w' => e = .returned (.tuple #[.agg #[.slice q n c, .int .i64 (ops + 1), .int .i64 armed, .int .i64 (-1), .bool false], agg z64, .int .i64 8]) ∧ Below w.heap.size w w') := by
  have t0 := Lib.hid (RRel.start w (dL q n c ops armed 0 false) (dL none 0 0 0 0 0 false) (bl z64))
  have c4 : (((w.alloc (.cells (dL q n c ops armed 0 false).toArray 31)).alloc (.cells (dL none 0 0 0 0 0 false).toArray 31)).alloc (.cells (bl z64).toArray 37)).cell? ⟨w.heap.size, 4, none⟩ = some (.bool false) := t0.out.d.cell 4
  have hd : decide (0 ≤ i ∧ i < n) = true := decide_eq_true hi
  clear hi
  have hbg : ∀ u : World, Calls Try.prog 59 #[.agg #[.slice q n c, .int .i64 ops, .int .i64 armed, .int .i64 0, .bool false], .bool true] u (fun e w' => e = .returned (.tuple #[.agg #[.slice q n c, .int .i64 (ops + 1), .int .i64 armed, .int .i64 (-1), .bool false], .int .i64 8]) ∧ Below u.heap.size u w') :=
    fun u => begin_read q n c ops armed 0 u ho ho1 ha ha0 (by decide) (by decide)
  have hbg' := Lib.hid hbg
  clear hbg
  go_enter Try.func35, Try.ntmps35
  go_wp2_with (first
    | (with_reducible refine wpList_alloc_z rfl 37 rfl alloc37z ?_)
    | (refine wpList_build_z rfl rfl ?_)
    | (go_at_call 58; refine (there_any q n c ops armed 0 i false _).mono ?_; rintro e w3 ⟨rfl, hb3⟩; rw [hd]
       have t3 := Lib.hid (t0.out.stay hb3)
       clear hb3)
    | (go_at_call 59; refine (hbg'.out _).mono ?_; rintro e w4 ⟨rfl, hb4⟩
       have t4 := Lib.hid (t3.out.stay hb4)
       clear hb4)
    | (with_reducible refine wpList_load_at rfl 31 (.tmp 2) rfl Try.underlying31 rfl (vs := dL q n c (ops + 1) armed (-1) false) (size31b _ _ _ _ _) rfl (t4'.out.d.part (o := 0) (pre := []) (rest := []) (part31 _) rfl) ?_)
    | (with_reducible refine wpList_load_at rfl 31 (.tmp 2) rfl Try.underlying31 rfl (vs := dL q n c ops armed 0 false) (size31b _ _ _ _ _) rfl (t3.out.d.part (o := 0) (pre := []) (rest := []) (part31 _) rfl) ?_)
    | (with_reducible refine wpList_load_at rfl 31 (.tmp 2) rfl Try.underlying31 rfl (vs := dL q n c ops armed 0 false) (size31b _ _ _ _ _) rfl (t0.out.d.part (o := 0) (pre := []) (rest := []) (part31 _) rfl) ?_)
    | ((with_reducible refine wpList_store_at rfl 31 (.tmp 2) (.tmp 23) rfl (o := 0) rfl rfl t4.out.d (size31b _ _ _ _ _) (fit31 _ _ _ _ _ _ _ _ _ _) (one31 q n c (ops + 1) armed (-1) false) ?_)
       intro w4' h4 hg4
       rw [d5_splice] at h4
       have t4' := Lib.hid (t4.out.putD h4 hg4)
       clear h4 hg4)
    | ((with_reducible refine wpList_store_at rfl 31 (.tmp 4) (.tmp 27) rfl (o := 0) rfl rfl t4'.out.r (size31b _ _ _ _ _) (fit31 _ _ _ _ _ _ _ _ _ _) (one31 q n c (ops + 1) armed (-1) false) ?_)
       intro w5 h5 hg5
       rw [d5_splice] at h5
       have t5 := Lib.hid (t4'.out.putR h5 hg5)
       clear h5 hg5)
    | ((with_reducible refine wpList_store_at rfl 37 (.tmp 5) (.tmp 28) rfl (o := 0) rfl rfl t5.out.b (bl_size z64_len) (bl_fits z64_len z64_len) (bl_one z64) ?_)
       intro w6 h6 hg6
       rw [bl_splice z64_len z64_len] at h6
       have t6 := Lib.hid (t5.out.putB h6 hg6)
       clear h6 hg6)
    | (refine bodyPost_ret (results_disk_blk_tmp (r := 4) (s := 5) (u := 6) Try.results35 _ _ (w.heap.size + 1) (w.heap.size + 1 + 1) _ _ _ _ _ (bl z64) ⟨by rw [bl_len, z64_len], bl_one z64⟩ rfl t6.out.r rfl t6.out.b _ rfl) rfl ⟨rfl, ?_⟩))
  exact t6.out.below

theorem load_sec {w : World} {a : Addr} {n c i : Nat} {L : List (List Value)} {bH bC : List Value} {is : Bool} (h : HoldsE w (.slice (some a) n c) L) (hE : Each 129 L) (hb : L[i]? = some (secV bH bC is)) (hH : Blk bH) (hC : Blk bC) :
    (loadVar 47 (a.add (i * 129))).run Try.prog w = .ok (.agg (secV bH bC is).toArray) w := by
  have hn := holdsE_len h
  have hi : i < L.length := (List.getElem?_eq_some_iff.1 hb).1
  obtain ⟨a', e, ha, he, hc⟩ := holdsE_at h hE (i := i) (by omega)
  cases ha
  rw [hb] at he
  obtain rfl := Option.some.inj he
  exact run_loadVar_at Try.underlying47 rfl (sec_size hH hC) (a.add (i * 129)) hc

theorem load_d5 {w : World} {g : Nat} {a1 a2 a3 a4 a5 : Value} (hr : RowV 31 w g [a1, a2, a3, a4, a5]) :
    (loadVar 31 ⟨g, 0, none⟩).run Try.prog w = .ok (.agg #[a1, a2, a3, a4, a5]) w :=
  run_loadVar_row (P := Try.prog) w g 31 31 #[a1, a2, a3, a4, a5] (0, 0) _ hr Try.underlying31 rfl size31

theorem fits2 {b c : List Value} (h : Blk b) (k : Blk c) : 0 + b.length ≤ c.length := by rw [h.1, k.1]; decide
theorem splice_full2 {b c : List Value} (h : Blk b) (k : Blk c) : splice c 0 b = b := by
  unfold splice
  rw [List.take_zero, List.nil_append, Nat.zero_add, h.1, List.drop_of_length_le (by rw [k.1]; exact Nat.le_refl _), List.append_nil]
theorem blk_bl {b : List Int} (h : b.length = 64) : Blk (bl b) := ⟨by rw [bl_len, h], bl_one b⟩

set_option maxRecDepth 100000 in
set_option maxHeartbeats 2000000 in
theorem rread_ok (q : Option Addr) (n c : Nat) (ops armed failing : Int) (i : Nat) (L : List (List Value)) (bH bC : List Value) (is : Bool) (w : World) (hv : HoldsE w (.slice q n c) L) (hE : Each 129 L) (hi : i < n) (hL : L[i]? = some (secV bH bC is)) (hH : Blk bH) (hC : Blk bC)
    (hfn : failing ≠ 0) (ho : 0 ≤ ops) (ho1 : ops < 4611686018427387904) (ha : armed < 9223372036854775808) (ha0 : -4611686018427387904 < armed) (hf : failing < 9223372036854775808) (hf0 : -4611686018427387904 < failing) :
    Calls Try.prog 35 #[.agg #[.slice q n c, .int .i64 ops, .int .i64 armed, .int .i64 failing, .bool false], .int .i64 i] w (fun e w' => e = .returned (.tuple #[.agg #[.slice q n c, .int .i64 (ops + 1), .int .i64 armed, .int .i64 (bFail failing), .bool false], .agg (if is then bC else bH).toArray, .int .i64 0]) ∧ Below w.heap.size w w') := by
  have t0 := Lib.hid (RRel.start w (dL q n c ops armed failing false) (dL none 0 0 0 0 0 false) (bl z64))
  have c4 : (((w.alloc (.cells (dL q n c ops armed failing false).toArray 31)).alloc (.cells (dL none 0 0 0 0 0 false).toArray 31)).alloc (.cells (bl z64).toArray 37)).cell? ⟨w.heap.size, 4, none⟩ = some (.bool false) := t0.out.d.cell 4
  have hd : decide (0 ≤ (i : Int) ∧ (i : Int) < n) = true := decide_eq_true ⟨by omega, by omega⟩
  obtain ⟨f', hf'⟩ : ∃ f', bFail failing = f' := ⟨_, rfl⟩
  have hbg : ∀ u : World, Calls Try.prog 59 #[.agg #[.slice q n c, .int .i64 ops, .int .i64 armed, .int .i64 failing, .bool false], .bool true] u (fun e w' => e = .returned (.tuple #[.agg #[.slice q n c, .int .i64 (ops + 1), .int .i64 armed, .int .i64 f', .bool false], .int .i64 0]) ∧ Below u.heap.size u w') := fun u => by
    have h := begin_read q n c ops armed failing u ho ho1 ha ha0 hf hf0
    rw [if_neg hfn, hf'] at h
    exact h
  rw [hf']
  have hbg' := Lib.hid hbg
  obtain ⟨b, hb⟩ : ∃ b, (if is then bC else bH) = b := ⟨_, rfl⟩
  have hB : Blk b := by rw [← hb]; cases is <;> assumption
  have hsy : ∀ u : World, Calls Try.prog 60 #[.agg (secV bH bC is).toArray] u (fun e w' => e = .returned (.agg b.toArray) ∧ Below u.heap.size u w') := fun u => by
    have h := says_any bH bC is u hH hC
    rw [hb] at h
    exact h
  have hsy' := Lib.hid hsy
  obtain ⟨a, rfl⟩ : ∃ a, q = some a := by
    obtain ⟨a, _, ha, _⟩ := holdsE_at hv hE hi
    exact ⟨a, ha⟩
  have hv0 := Lib.hid hv
  have hL0 := Lib.hid hL
  have hE0 := Lib.hid hE
  have hH0 := Lib.hid hH
  have hC0 := Lib.hid hC
  have hB0 := Lib.hid hB
  rw [hb]
  clear hbg hsy hb hf' hfn ho ho1 ha ha0 hf hf0 hv hL hE hH hC hB
  go_enter Try.func35, Try.ntmps35
  go_wp2_with (first
    | (with_reducible refine wpList_alloc_z rfl 37 rfl alloc37z ?_)
    | (refine wpList_build_z rfl rfl ?_)
    | (go_at_call 58; refine (there_any (some a) n c ops armed failing i false _).mono ?_; rintro e w3 ⟨rfl, hb3⟩; rw [hd]
       have t3 := Lib.hid (t0.out.stay hb3)
       clear hb3)
    | (go_at_call 59; refine (hbg'.out _).mono ?_; rintro e w4 ⟨rfl, hb4⟩
       have t4 := Lib.hid (t3.out.stay hb4)
       clear hb4)
    | (with_reducible refine wpList_load_at rfl 31 (.tmp 2) rfl Try.underlying31 rfl (vs := dL (some a) n c ops armed failing false) (size31b _ _ _ _ _) rfl (t3.out.d.part (o := 0) (pre := []) (rest := []) (part31 _) rfl) ?_)
    | (with_reducible refine wpList_load_at rfl 31 (.tmp 2) rfl Try.underlying31 rfl (vs := dL (some a) n c ops armed failing false) (size31b _ _ _ _ _) rfl (t0.out.d.part (o := 0) (pre := []) (rest := []) (part31 _) rfl) ?_)
    | ((with_reducible refine wpList_store_at rfl 31 (.tmp 2) (.tmp 23) rfl (o := 0) rfl rfl t4.out.d (size31b _ _ _ _ _) (fit31 _ _ _ _ _ _ _ _ _ _) (one31 (some a) n c (ops + 1) armed f' false) ?_)
       intro w5 h4 hg4
       rw [d5_splice] at h4
       have t5 := Lib.hid (t4.out.putD h4 hg4)
       clear h4 hg4))
  clear c4 t0 t3 t4 hbg'
  have hv5 := holdsE_below hv0.out t5.out.below (Nat.le_refl _)
  refine wp_region_held (S := fun W => RowV 31 W w.heap.size [.slice (some a) n c, .int .i64 (ops + 1), .int .i64 armed, .int .i64 f', .bool false] ∧ HoldsE W (.slice (some a) n c) L) (by kernel_rfl) ?_
  change wpAnyH _ _ _ _ _ _ _ _ (World.drew w5)
  have t6 := Lib.hid (t5.out.stay (below_drewN w5 1))
  have hS : RowV 31 w5.drew w.heap.size [.slice (some a) n c, .int .i64 (ops + 1), .int .i64 armed, .int .i64 f', .bool false] ∧ HoldsE w5.drew (.slice (some a) n c) L := ⟨t6.out.d, holdsE_below hv0.out t6.out.below (Nat.le_refl _)⟩
  refine held_take (i := 0) (dst := some 30) rfl rfl (by kernel_rfl) (by kernel_rfl) (by kernel_rfl) (fun _ _ _ h => h) (y_load_agg 31 (.tmp 2) rfl rfl rfl (fun W hW => load_d5 hW.1)) hS ?_
  go_frame
  refine held_take (i := 1) (dst := some 31) (v := .pointer (some ⟨w.heap.size, 0, none⟩)) rfl rfl (by kernel_rfl) (by kernel_rfl) (by kernel_rfl) (fun _ _ _ h => h) (.inl ⟨rfl, fun W _ => by go_simp⟩) hS ?_
  go_frame
  refine held_take (i := 2) (dst := some 32) (v := .slice (some a) n c) rfl rfl (by kernel_rfl) (by kernel_rfl) (by kernel_rfl) (fun _ _ _ h => h) (.inl ⟨rfl, fun W hW => by have c1 : W.cell? ⟨w.heap.size, 0, none⟩ = some (.slice (some a) n c) := hW.1.cell 0; go_simp⟩) hS ?_
  go_frame
  refine held_take (i := 3) (dst := some 33) rfl rfl (by kernel_rfl) (by kernel_rfl) (by kernel_rfl) (fun _ _ _ h => h) (y_move (.tmp 1) rfl rfl rfl) hS ?_
  go_frame
  refine held_take (i := 4) (dst := some 34) (v := .pointer (some (a.add (i * 129)))) rfl rfl (by kernel_rfl) (by kernel_rfl) (by kernel_rfl) (fun _ _ _ h => h) (.inl ⟨rfl, fun W _ => by go_simp⟩) hS ?_
  go_frame
  refine held_take (i := 5) (dst := some 35) rfl rfl (by kernel_rfl) (by kernel_rfl) (by kernel_rfl) (fun _ _ _ h => h) (y_load_agg 47 (.tmp 34) rfl rfl rfl (fun W hW => load_sec hW.2 hE0.out hL0.out hH0.out hC0.out)) hS ?_
  go_frame
  refine held_take (i := 7) (dst := some 37) rfl rfl (by kernel_rfl) (by kernel_rfl) (by kernel_rfl) (fun _ _ _ h => h) (y_move (.tmp 7) rfl rfl rfl) hS ?_
  go_frame
  refine held_call (i := 6) (dst := some 36) rfl rfl (by kernel_rfl) rfl (by go_simp) (hsy'.out _) ?_
  rintro e w7 ⟨rfl, hb7⟩
  have t7 := t6.out.stay hb7
  refine ⟨_, rfl, ⟨t7.d, holdsE_below hv0.out t7.below (Nat.le_refl _)⟩, ?_⟩
  go_frame
  obtain ⟨w8, hst8, h8, hg8⟩ := run_storeVar_at (P := Try.prog) (ty := 31) t7.r (size31b (.slice (some a) n c) (.int .i64 (ops + 1)) (.int .i64 armed) (.int .i64 f') (.bool false)) (fit31 _ _ _ _ _ _ _ _ _ _) (one31 (some a) n c (ops + 1) armed f' false)
  rw [d5_splice] at h8
  have t8 := t7.putR h8 hg8
  refine held_skip (i := 8) (dst := none) (w' := w8) rfl rfl (by kernel_rfl) rfl (run_store_op rfl rfl rfl hst8) ⟨t8.d, holdsE_below hv0.out t8.below (Nat.le_refl _)⟩ ?_
  go_frame
  obtain ⟨w9, hst9, h9, hg9⟩ := run_storeVar_at (P := Try.prog) (ty := 37) t8.b hB0.out.size (fits2 hB0.out (blk_bl z64_len)) hB0.out.one
  rw [splice_full2 hB0.out (blk_bl z64_len)] at h9
  have t9 := t8.putB h9 hg9
  refine held_skip (i := 9) (dst := none) (w' := w9) rfl rfl (by kernel_rfl) rfl (run_store_op rfl rfl rfl hst9) ⟨t9.d, holdsE_below hv0.out t9.below (Nat.le_refl _)⟩ ?_
  go_frame
  refine held_value (i := 10) (dst := some 6) (w' := w9) (v := .int .i64 0) rfl rfl (by kernel_rfl) rfl (by go_simp) ⟨t9.d, holdsE_below hv0.out t9.below (Nat.le_refl _)⟩ ?_
  go_frame
  refine wpAnyH_done (by kernel_rfl) ?_ _
  go_wp2
  refine bodyPost_ret (results_disk_blk_tmp (r := 4) (s := 5) (u := 6) Try.results35 _ _ (w.heap.size + 1) (w.heap.size + 1 + 1) _ _ _ _ _ b hB0.out rfl t9.r rfl t9.b _ rfl) rfl ⟨rfl, ?_⟩
  exact t9.below

end Go.Proofs.Ytnjandmlhncapaa

/-! A sector that is built of its parts (bursaryref02). -/
namespace Go.Proofs.Ytnjandmlhncapaa
open Go.RowKit

theorem fold_splice (off : Nat) (l : List Value) (cs : Array Value) (h : off + l.length ≤ cs.size) :
    (l.zipIdx 0).foldl (fun cs (x : Value × Nat) => cs.setIfInBounds (off + x.2) x.1) cs = (splice cs.toList off l).toArray := by
  obtain ⟨h1, h2⟩ := Go.Great.foldl_set off l 0 cs
  apply Array.ext_getElem?
  intro k
  rw [h2 k, Nat.add_zero]
  have ha : (splice cs.toList off l).toArray[k]? = (cs.toList.take off ++ (l ++ cs.toList.drop (off + l.length)))[k]? := by unfold splice; simp only [List.getElem?_toArray]
  rw [ha]
  have hT : (cs.toList.take off).length = off := by
    have : cs.toList.length = cs.size := rfl
    rw [List.length_take]
    omega
  by_cases hk : k < off
  · rw [if_neg (by omega), List.getElem?_append_left (by omega), List.getElem?_take_of_lt hk, Array.getElem?_toList]
  · rw [List.getElem?_append_right (by omega), hT]
    by_cases hl : k < off + l.length
    · rw [if_pos (by omega), List.getElem?_append_left (by omega)]
    · rw [if_neg (by omega), List.getElem?_append_right (by omega), List.getElem?_drop, Array.getElem?_toList]
      congr 1
      omega

theorem fill_step {place : Nat → Option (Nat × Nat)} {cells : Array Value} {i off size : Nat} {vs : List Value} {v : Value} {rest : List (Nat × Value)} (hp : place i = some (off, size)) (hv : v.cells = vs.toArray) (hs : vs.length = size) (hle : off + size ≤ cells.size) :
    Instr.fill place cells ((i, v) :: rest) = Instr.fill place (splice cells.toList off vs).toArray rest := by
  conv => lhs; unfold Instr.fill
  have e : v.cells.size = size := by rw [hv, List.size_toArray, hs]
  simp only [hp, e]
  rw [if_neg (by simp; omega)]
  rw [← fold_splice off vs cells (by omega), hv]
  congr 1
  rw [← Array.foldl_toList]
  simp

theorem splice_mid {a b c x : List Value} {n : Nat} (hn : n = a.length) (h : x.length = b.length) : splice (a ++ (b ++ c)) n x = a ++ (x ++ c) := by
  subst hn
  unfold splice
  rw [List.take_left, h, ← List.append_assoc a b c, ← List.length_append, List.drop_left]

theorem built47 (parts : List (Nat × Value)) : Try.prog.built 47 parts = Instr.fill (#[(0, 64), (64, 64), (128, 1)][·]?) (secV (blk 0) (blk 0) false).toArray parts := by kernel_rfl

theorem zero_sec_len : (secV (blk 0) (blk 0) false).toArray.size = 129 := by rw [List.size_toArray, sec_len (blk_blk 0) (blk_blk 0)]

theorem build_held {h : List Value} (hh : Blk h) : Try.prog.built 47 [(0, .agg h.toArray)] = some (secV h (blk 0) false).toArray := by
  rw [built47, fill_step (off := 0) (size := 64) (vs := h) rfl rfl hh.1 (by rw [zero_sec_len]; decide)]
  unfold Instr.fill secV
  rw [List.toList_toArray]
  have := splice_mid (a := []) (b := blk 0) (c := blk 0 ++ [.bool false]) (x := h) (n := 0) rfl (by rw [hh.1, blk_len])
  rw [List.nil_append, List.nil_append] at this
  rw [this]

theorem build_all {h c : List Value} {is : Bool} (hh : Blk h) (hc : Blk c) : Try.prog.built 47 [(0, .agg h.toArray), (1, .agg c.toArray), (2, .bool is)] = some (secV h c is).toArray := by
  have e0 := splice_mid (a := []) (b := blk 0) (c := blk 0 ++ [.bool false]) (x := h) (n := 0) rfl (by rw [hh.1, blk_len])
  rw [List.nil_append, List.nil_append] at e0
  have e1 := splice_mid (a := h) (b := blk 0) (c := [.bool false]) (x := c) (n := 64) hh.1.symm (by rw [hc.1, blk_len])
  have e2 := splice_mid (a := h ++ c) (b := [.bool false]) (c := []) (x := [.bool is]) (n := 128) (by rw [List.length_append, hh.1, hc.1]) rfl
  simp only [List.append_nil, List.append_assoc] at e2
  have l1 : (h ++ (blk 0 ++ [Value.bool false])).length = 129 := by rw [List.length_append, List.length_append, hh.1, blk_len]; rfl
  have l2 : (h ++ (c ++ [Value.bool false])).length = 129 := by rw [List.length_append, List.length_append, hh.1, hc.1]; rfl
  rw [built47, fill_step (off := 0) (size := 64) (vs := h) rfl rfl hh.1 (by rw [zero_sec_len]; decide)]
  unfold secV
  rw [List.toList_toArray, e0, fill_step (off := 64) (size := 64) (vs := c) rfl rfl hc.1 (by rw [List.size_toArray, l1]; decide), List.toList_toArray, e1,
    fill_step (off := 128) (size := 1) (vs := [.bool is]) rfl rfl rfl (by rw [List.size_toArray, l2]; decide), List.toList_toArray, e2]
  unfold Instr.fill
  rfl

end Go.Proofs.Ytnjandmlhncapaa

/-! Write (bursaryref02), by its contract. -/
namespace Go.Proofs.Ytnjandmlhncapaa
open Go.RowKit

theorem results_disk_tmp {f : Func} {r u : Tmp} (h : f.results = #[.cell r 31, .tmp u]) (tmps : Array Value) (w : World) (g : Nat) (a1 a2 a3 a4 a5 : Value)
    (hp : tmps.getD r undef = .pointer (some ⟨g, 0, none⟩)) (hr : RowV 31 w g [a1, a2, a3, a4, a5]) (v : Value) (hv : tmps.getD u undef = v) :
    (results f tmps).run Try.prog w = .ok (.tuple #[.agg #[a1, a2, a3, a4, a5], v]) w := by
  rw [results_cell_tmp h, hp, hv]
  have := load_d5 hr
  simp only [asAddr, Sem.run_pure, Result.andThen_ok, this]

/-- the call's own three variables: the disk, the block, and what it returns -/
structure WRel (w wr : World) (D B R : List Value) : Prop where
  below : Below w.heap.size w wr
  d : RowV 31 wr w.heap.size D
  b : RowV 37 wr (w.heap.size + 1) B
  r : RowV 31 wr (w.heap.size + 1 + 1) R

theorem WRel.start (w : World) (D B R : List Value) : WRel w (((w.alloc (.cells D.toArray 31)).alloc (.cells B.toArray 37)).alloc (.cells R.toArray 31)) D B R := by
  refine ⟨(((Below.refl _ _).alloc (Nat.le_refl _) _).alloc (by simp) _).alloc (by simp; omega) _, ?_, ?_, ?_⟩
  · exact ((RowV.made w _).block (heap_alloc_old _ _ (by simp))).block (heap_alloc_old _ _ (by simp; omega))
  · have h := (RowV.made (T := 37) (w.alloc (.cells D.toArray 31)) B).block (heap_alloc_old _ (.cells R.toArray 31) (by simp))
    rw [World.size_alloc] at h
    exact h
  · have h := RowV.made (T := 31) ((w.alloc (.cells D.toArray 31)).alloc (.cells B.toArray 37)) R
    rw [World.size_alloc, World.size_alloc] at h
    exact h
theorem WRel.putD {w wr w' : World} {D B R D' : List Value} (h : WRel w wr D B R) (hr : RowV 31 w' w.heap.size D') (hg : wr.grownBy w' (some w.heap.size)) : WRel w w' D' B R :=
  ⟨h.below.grown hg h.below.size (fun k e => by cases e; omega), hr, h.b.kept hg (by omega), h.r.kept hg (by omega)⟩
theorem WRel.putR {w wr w' : World} {D B R R' : List Value} (h : WRel w wr D B R) (hr : RowV 31 w' (w.heap.size + 1 + 1) R') (hg : wr.grownBy w' (some (w.heap.size + 1 + 1))) : WRel w w' D B R' :=
  ⟨h.below.grown hg h.below.size (fun k e => by cases e; omega), h.d.kept hg (by omega), h.b.kept hg (by omega), hr⟩
theorem WRel.stay {w wr w' : World} {D B R : List Value} (h : WRel w wr D B R) (hg : Below wr.heap.size wr w') : WRel w w' D B R :=
  ⟨h.below.trans (hg.mono h.below.size), h.d.below hg, h.b.below hg, h.r.below hg⟩

set_option maxRecDepth 100000 in
set_option maxHeartbeats 1000000 in
theorem rwrite_dead (q : Option Addr) (n c : Nat) (ops armed failing i : Int) (b : List Value) (w : World) :
    Calls Try.prog 37 #[.agg #[.slice q n c, .int .i64 ops, .int .i64 armed, .int .i64 failing, .bool true], .int .i64 i, .agg b.toArray] w (fun e w' => e = .returned (.tuple #[.agg #[.slice q n c, .int .i64 ops, .int .i64 armed, .int .i64 failing, .bool true], .int .i64 9]) ∧ Below w.heap.size w w') := by
  have t0 := Lib.hid (WRel.start w (dL q n c ops armed failing true) b (dL none 0 0 0 0 0 false))
  have c4 : (((w.alloc (.cells (dL q n c ops armed failing true).toArray 31)).alloc (.cells b.toArray 37)).alloc (.cells (dL none 0 0 0 0 0 false).toArray 31)).cell? ⟨w.heap.size, 4, none⟩ = some (.bool true) := t0.out.d.cell 4
  go_enter Try.func37, Try.ntmps37
  go_wp2_with (first
    | (with_reducible refine wpList_load_at rfl 31 (.tmp 3) rfl Try.underlying31 rfl (vs := dL q n c ops armed failing true) (size31b _ _ _ _ _) rfl (t0.out.d.part (o := 0) (pre := []) (rest := []) (part31 _) rfl) ?_)
    | ((with_reducible refine wpList_store_at rfl 31 (.tmp 6) (.tmp 12) rfl (o := 0) rfl rfl t0.out.r (size31b _ _ _ _ _) (fit31 _ _ _ _ _ _ _ _ _ _) (one31 q n c ops armed failing true) ?_)
       intro w5 h5 hg5
       rw [d5_splice] at h5
       have t5 := Lib.hid (t0.out.putR h5 hg5)
       clear h5 hg5)
    | (refine bodyPost_ret (results_disk_tmp (r := 6) (u := 7) Try.results37 _ _ (w.heap.size + 1 + 1) _ _ _ _ _ rfl t5.out.r _ rfl) rfl ⟨rfl, ?_⟩))
  exact t5.out.below

set_option maxRecDepth 100000 in
set_option maxHeartbeats 1000000 in
theorem rwrite_arg (q : Option Addr) (n c : Nat) (ops armed failing i : Int) (b : List Value) (w : World) (hi : ¬(0 ≤ i ∧ i < n)) :
    Calls Try.prog 37 #[.agg #[.slice q n c, .int .i64 ops, .int .i64 armed, .int .i64 failing, .bool false], .int .i64 i, .agg b.toArray] w (fun e w' => e = .returned (.tuple #[.agg #[.slice q n c, .int .i64 ops, .int .i64 armed, .int .i64 failing, .bool false], .int .i64 2]) ∧ Below w.heap.size w w') := by
  have t0 := Lib.hid (WRel.start w (dL q n c ops armed failing false) b (dL none 0 0 0 0 0 false))
  have c4 : (((w.alloc (.cells (dL q n c ops armed failing false).toArray 31)).alloc (.cells b.toArray 37)).alloc (.cells (dL none 0 0 0 0 0 false).toArray 31)).cell? ⟨w.heap.size, 4, none⟩ = some (.bool false) := t0.out.d.cell 4
  have hd : decide (0 ≤ i ∧ i < n) = false := decide_eq_false hi
  clear hi
  go_enter Try.func37, Try.ntmps37
  go_wp2_with (first
    | (go_at_call 58; refine (there_any q n c ops armed failing i false _).mono ?_; rintro e w3 ⟨rfl, hb3⟩; rw [hd]
       have t3 := Lib.hid (t0.out.stay hb3)
       clear hb3)
    | (with_reducible refine wpList_load_at rfl 31 (.tmp 3) rfl Try.underlying31 rfl (vs := dL q n c ops armed failing false) (size31b _ _ _ _ _) rfl (t3.out.d.part (o := 0) (pre := []) (rest := []) (part31 _) rfl) ?_)
    | (with_reducible refine wpList_load_at rfl 31 (.tmp 3) rfl Try.underlying31 rfl (vs := dL q n c ops armed failing false) (size31b _ _ _ _ _) rfl (t0.out.d.part (o := 0) (pre := []) (rest := []) (part31 _) rfl) ?_)
    | ((with_reducible refine wpList_store_at rfl 31 (.tmp 6) (.tmp 18) rfl (o := 0) rfl rfl t3.out.r (size31b _ _ _ _ _) (fit31 _ _ _ _ _ _ _ _ _ _) (one31 q n c ops armed failing false) ?_)
       intro w5 h5 hg5
       rw [d5_splice] at h5
       have t5 := Lib.hid (t3.out.putR h5 hg5)
       clear h5 hg5)
    | (refine bodyPost_ret (results_disk_tmp (r := 6) (u := 7) Try.results37 _ _ (w.heap.size + 1 + 1) _ _ _ _ _ rfl t5.out.r _ rfl) rfl ⟨rfl, ?_⟩))
  exact t5.out.below

/-- what begin makes of a disk, for a call that writes -/
def Begins (q : Option Addr) (n c : Nat) (ops armed failing : Int) (reads : Bool) (ar fl : Int) (dd : Bool) (er : Int) : Prop :=
  ∀ u : World, Calls Try.prog 59 #[.agg #[.slice q n c, .int .i64 ops, .int .i64 armed, .int .i64 failing, .bool false], .bool reads] u (fun e w' => e = .returned (.tuple #[.agg #[.slice q n c, .int .i64 (ops + 1), .int .i64 ar, .int .i64 fl, .bool dd], .int .i64 er]) ∧ Below u.heap.size u w')

theorem begins_of (q : Option Addr) (n c : Nat) (ops armed failing : Int) (reads : Bool) (ho : 0 ≤ ops) (ho1 : ops < 4611686018427387904) (ha : armed < 9223372036854775808) (ha0 : -4611686018427387904 < armed) (hf : failing < 9223372036854775808) (hf0 : -4611686018427387904 < failing) :
    Begins q n c ops armed failing reads (bArmed armed failing reads) (bFail failing) (bDead false armed reads) (bErr armed failing reads) := fun u => begin_any q n c ops armed failing false reads u ho ho1 ha ha0 hf hf0

set_option maxRecDepth 100000 in
set_option maxHeartbeats 1000000 in
theorem rwrite_fail (q : Option Addr) (n c : Nat) (ops armed failing i ar fl : Int) (dd : Bool) (b : List Value) (w : World) (hi : 0 ≤ i ∧ i < n) (hb : Begins q n c ops armed failing false ar fl dd 8) :
    Calls Try.prog 37 #[.agg #[.slice q n c, .int .i64 ops, .int .i64 armed, .int .i64 failing, .bool false], .int .i64 i, .agg b.toArray] w (fun e w' => e = .returned (.tuple #[.agg #[.slice q n c, .int .i64 (ops + 1), .int .i64 ar, .int .i64 fl, .bool dd], .int .i64 8]) ∧ Below w.heap.size w w') := by
  have t0 := Lib.hid (WRel.start w (dL q n c ops armed failing false) b (dL none 0 0 0 0 0 false))
  have c4 : (((w.alloc (.cells (dL q n c ops armed failing false).toArray 31)).alloc (.cells b.toArray 37)).alloc (.cells (dL none 0 0 0 0 0 false).toArray 31)).cell? ⟨w.heap.size, 4, none⟩ = some (.bool false) := t0.out.d.cell 4
  have hd : decide (0 ≤ i ∧ i < n) = true := decide_eq_true hi
  have hbg' := Lib.hid hb
  clear hi hb
  go_enter Try.func37, Try.ntmps37
  go_wp2_with (first
    | (go_at_call 58; refine (there_any q n c ops armed failing i false _).mono ?_; rintro e w3 ⟨rfl, hb3⟩; rw [hd]
       have t3 := Lib.hid (t0.out.stay hb3)
       clear hb3)
    | (go_at_call 59; refine (hbg'.out _).mono ?_; rintro e w4 ⟨rfl, hb4⟩
       have t4 := Lib.hid (t3.out.stay hb4)
       clear hb4)
    | (with_reducible refine wpList_load_at rfl 31 (.tmp 3) rfl Try.underlying31 rfl (vs := dL q n c (ops + 1) ar fl dd) (size31b _ _ _ _ _) rfl (t4'.out.d.part (o := 0) (pre := []) (rest := []) (part31 _) rfl) ?_)
    | (with_reducible refine wpList_load_at rfl 31 (.tmp 3) rfl Try.underlying31 rfl (vs := dL q n c ops armed failing false) (size31b _ _ _ _ _) rfl (t3.out.d.part (o := 0) (pre := []) (rest := []) (part31 _) rfl) ?_)
    | (with_reducible refine wpList_load_at rfl 31 (.tmp 3) rfl Try.underlying31 rfl (vs := dL q n c ops armed failing false) (size31b _ _ _ _ _) rfl (t0.out.d.part (o := 0) (pre := []) (rest := []) (part31 _) rfl) ?_)
    | ((with_reducible refine wpList_store_at rfl 31 (.tmp 3) (.tmp 22) rfl (o := 0) rfl rfl t4.out.d (size31b _ _ _ _ _) (fit31 _ _ _ _ _ _ _ _ _ _) (one31 q n c (ops + 1) ar fl dd) ?_)
       intro w4' h4 hg4
       rw [d5_splice] at h4
       have t4' := Lib.hid (t4.out.putD h4 hg4)
       clear h4 hg4)
    | ((with_reducible refine wpList_store_at rfl 31 (.tmp 6) (.tmp 26) rfl (o := 0) rfl rfl t4'.out.r (size31b _ _ _ _ _) (fit31 _ _ _ _ _ _ _ _ _ _) (one31 q n c (ops + 1) ar fl dd) ?_)
       intro w5 h5 hg5
       rw [d5_splice] at h5
       have t5 := Lib.hid (t4'.out.putR h5 hg5)
       clear h5 hg5)
    | (refine bodyPost_ret (results_disk_tmp (r := 6) (u := 7) Try.results37 _ _ (w.heap.size + 1 + 1) _ _ _ _ _ rfl t5.out.r _ rfl) rfl ⟨rfl, ?_⟩))
  exact t5.out.below

end Go.Proofs.Ytnjandmlhncapaa

/-! Write (bursaryref02), where a sector is written. -/
namespace Go.Proofs.Ytnjandmlhncapaa
open Go.RowKit

theorem y_build_sec {ops : Array Oper} {S : World → Prop} {a : Act} {o : Oper} {x y z : Operand} {h c : List Value} {is : Bool} (ho : o.op = .build 47 #[(0, x), (1, y), (2, z)]) (hw : Region.wanted o (yielded ops a.tmps) = true)
    (hx : a.eval x = .agg h.toArray) (hy : a.eval y = .agg c.toArray) (hz : a.eval z = .bool is) (hh : Blk h) (hc : Blk c) : YieldsIf Try.prog ops S o (.agg (secV h c is).toArray) a := by
  refine .inl ⟨hw, fun w _ => ?_⟩
  unfold execOp
  have hb := run_build (P := Try.prog) w 47 #[(0, .agg h.toArray), (1, .agg c.toArray), (2, .bool is)] _ (build_all hh hc)
  simp only [ho, List.map_toArray, List.map_cons, List.map_nil, hx, hy, hz, Sem.run_bind, hb, Result.andThen_ok, Sem.run_pure]

theorem load_sec_held {w : World} {a : Addr} {n c i : Nat} {L : List (List Value)} {bH bC : List Value} {is : Bool} (h : HoldsE w (.slice (some a) n c) L) (hE : Each 129 L) (hb : L[i]? = some (secV bH bC is)) (hH : Blk bH) :
    (loadVar 37 (a.add (i * 129))).run Try.prog w = .ok (.agg bH.toArray) w := by
  have hn := holdsE_len h
  have hi : i < L.length := (List.getElem?_eq_some_iff.1 hb).1
  obtain ⟨a', e, ha, he, hc⟩ := holdsE_at h hE (i := i) (by omega)
  cases ha
  rw [hb] at he
  obtain rfl := Option.some.inj he
  refine run_loadVar_at Try.underlying37 rfl hH.size (a.add (i * 129)) (fun j v hj => hc j v ?_)
  unfold secV
  rw [List.getElem?_append_left (List.getElem?_eq_some_iff.1 hj).1]
  exact hj
theorem load_blkV {w : World} {g : Nat} {b : List Value} (hr : RowV 37 w g b) (hb : Blk b) : (loadVar 37 ⟨g, 0, none⟩).run Try.prog w = .ok (.agg b.toArray) w :=
  run_loadVar_row (P := Try.prog) w g 37 37 b.toArray (0, 0) _ hr Try.underlying37 rfl (by rw [List.size_toArray]; exact hb.size)

def WrPost (w : World) (n : Nat) (L : List (List Value)) (ops armed failing : Int) (dead : Bool) (er : Int) (e : Ending) (w' : World) : Prop :=
  ∃ q c, e = .returned (.tuple #[.agg #[.slice q n c, .int .i64 ops, .int .i64 armed, .int .i64 failing, .bool dead], .int .i64 er]) ∧ OwnE 47 129 w' w.heap.size (.slice q n c) L ∧ Below w.heap.size w w'

set_option maxRecDepth 100000 in
set_option maxHeartbeats 2000000 in
theorem rwrite_ok (q : Option Addr) (n c : Nat) (ops armed failing ar fl er : Int) (dd : Bool) (i : Nat) (L : List (List Value)) (bH bC b : List Value) (is : Bool) (w : World) (hv : HoldsE w (.slice q n c) L) (hE : Each 129 L) (hn : n ≤ 4096) (hi : i < n) (hL : L[i]? = some (secV bH bC is)) (hH : Blk bH) (hB : Blk b)
    (hb : Begins q n c ops armed failing false ar fl dd er) (her : er ≠ 8) :
    Calls Try.prog 37 #[.agg #[.slice q n c, .int .i64 ops, .int .i64 armed, .int .i64 failing, .bool false], .int .i64 i, .agg b.toArray] w (WrPost w n (L.set i (secV bH b true)) (ops + 1) ar fl dd er) := by
  have t0 := Lib.hid (WRel.start w (dL q n c ops armed failing false) b (dL none 0 0 0 0 0 false))
  have c4 : (((w.alloc (.cells (dL q n c ops armed failing false).toArray 31)).alloc (.cells b.toArray 37)).alloc (.cells (dL none 0 0 0 0 0 false).toArray 31)).cell? ⟨w.heap.size, 4, none⟩ = some (.bool false) := t0.out.d.cell 4
  have hd : decide (0 ≤ (i : Int) ∧ (i : Int) < n) = true := decide_eq_true ⟨by omega, by omega⟩
  have hbg' := Lib.hid hb
  have he8 : (er == 8) = false := by simpa using her
  obtain ⟨a, rfl⟩ : ∃ a, q = some a := by
    obtain ⟨a, _, ha, _⟩ := holdsE_at hv hE hi
    exact ⟨a, ha⟩
  have hv0 := Lib.hid hv
  have hL0 := Lib.hid hL
  have hE0 := Lib.hid hE
  have hH0 := Lib.hid hH
  have hB0 := Lib.hid hB
  clear hb hv hL hE hH hB her
  go_enter Try.func37, Try.ntmps37
  go_wp2_with (first
    | (go_at_call 58; refine (there_any (some a) n c ops armed failing i false _).mono ?_; rintro e w3 ⟨rfl, hb3⟩; rw [hd]
       have t3 := Lib.hid (t0.out.stay hb3)
       clear hb3)
    | (go_at_call 59; refine (hbg'.out _).mono ?_; rintro e w4 ⟨rfl, hb4⟩
       have t4 := Lib.hid (t3.out.stay hb4)
       clear hb4)
    | (with_reducible refine wpList_load_at rfl 31 (.tmp 3) rfl Try.underlying31 rfl (vs := dL (some a) n c ops armed failing false) (size31b _ _ _ _ _) rfl (t3.out.d.part (o := 0) (pre := []) (rest := []) (part31 _) rfl) ?_)
    | (with_reducible refine wpList_load_at rfl 31 (.tmp 3) rfl Try.underlying31 rfl (vs := dL (some a) n c ops armed failing false) (size31b _ _ _ _ _) rfl (t0.out.d.part (o := 0) (pre := []) (rest := []) (part31 _) rfl) ?_)
    | ((with_reducible refine wpList_store_at rfl 31 (.tmp 3) (.tmp 22) rfl (o := 0) rfl rfl t4.out.d (size31b _ _ _ _ _) (fit31 _ _ _ _ _ _ _ _ _ _) (one31 (some a) n c (ops + 1) ar fl dd) ?_)
       intro w5 h4 hg4
       rw [d5_splice] at h4
       have t5 := Lib.hid (t4.out.putD h4 hg4)
       clear h4 hg4))
  clear c4 t0 t3 t4 hbg'
  refine wp_region_held (S := fun W => RowV 31 W w.heap.size [.slice (some a) n c, .int .i64 (ops + 1), .int .i64 ar, .int .i64 fl, .bool dd] ∧ RowV 37 W (w.heap.size + 1) b ∧ HoldsE W (.slice (some a) n c) L) (by kernel_rfl) ?_
  change wpAnyH _ _ _ _ _ _ _ _ (World.drew w5)
  have t6 := Lib.hid (t5.out.stay (below_drewN w5 1))
  have hS : RowV 31 w5.drew w.heap.size [.slice (some a) n c, .int .i64 (ops + 1), .int .i64 ar, .int .i64 fl, .bool dd] ∧ RowV 37 w5.drew (w.heap.size + 1) b ∧ HoldsE w5.drew (.slice (some a) n c) L := ⟨t6.out.d, t6.out.b, holdsE_below hv0.out t6.out.below (Nat.le_refl _)⟩
  refine held_take (i := 0) (dst := some 28) rfl rfl (by kernel_rfl) (by kernel_rfl) (by kernel_rfl) (fun _ _ _ h => h) (y_load_agg 31 (.tmp 3) rfl rfl rfl (fun W hW => load_d5 hW.1)) hS ?_
  go_frame
  refine held_take (i := 1) (dst := some 29) rfl rfl (by kernel_rfl) (by kernel_rfl) (by kernel_rfl) (fun _ _ _ h => h) (y_move (.tmp 1) rfl rfl rfl) hS ?_
  go_frame
  refine held_take (i := 2) (dst := some 30) (v := .pointer (some ⟨w.heap.size, 0, none⟩)) rfl rfl (by kernel_rfl) (by kernel_rfl) (by kernel_rfl) (fun _ _ _ h => h) (.inl ⟨rfl, fun W _ => by go_simp⟩) hS ?_
  go_frame
  refine held_take (i := 3) (dst := some 31) (v := .slice (some a) n c) rfl rfl (by kernel_rfl) (by kernel_rfl) (by kernel_rfl) (fun _ _ _ h => h) (.inl ⟨rfl, fun W hW => by have c1 : W.cell? ⟨w.heap.size, 0, none⟩ = some (.slice (some a) n c) := hW.1.cell 0; go_simp⟩) hS ?_
  go_frame
  refine held_take (i := 4) (dst := some 32) rfl rfl (by kernel_rfl) (by kernel_rfl) (by kernel_rfl) (fun _ _ _ h => h) (y_move (.tmp 1) rfl rfl rfl) hS ?_
  go_frame
  refine held_take (i := 5) (dst := some 33) (v := .pointer (some (a.add (i * 129)))) rfl rfl (by kernel_rfl) (by kernel_rfl) (by kernel_rfl) (fun _ _ _ h => h) (.inl ⟨rfl, fun W _ => by go_simp⟩) hS ?_
  go_frame
  refine held_take (i := 6) (dst := some 34) (v := .pointer (some (a.add (i * 129)))) rfl rfl (by kernel_rfl) (by kernel_rfl) (by kernel_rfl) (fun _ _ _ h => h) (.inl ⟨rfl, fun W _ => by go_simp⟩) hS ?_
  go_frame
  refine held_take (i := 7) (dst := some 35) (v := .agg bH.toArray) rfl rfl (by kernel_rfl) (by kernel_rfl) (by kernel_rfl) (fun _ _ _ h => h) (y_load_agg 37 (.tmp 34) rfl rfl rfl (fun W hW => load_sec_held hW.2.2 hE0.out hL0.out hH0.out)) hS ?_
  go_frame
  refine held_take (i := 8) (dst := some 36) (v := .agg b.toArray) rfl rfl (by kernel_rfl) (by kernel_rfl) (by kernel_rfl) (fun _ _ _ h => h) (y_load_agg 37 (.tmp 5) rfl rfl rfl (fun W hW => load_blkV hW.2.1 hB0.out)) hS ?_
  go_frame
  refine held_take (i := 9) (dst := some 37) (v := .agg (secV bH b true).toArray) rfl rfl (by kernel_rfl) (by kernel_rfl) (by kernel_rfl) (fun _ _ _ h => h) (y_build_sec rfl rfl rfl rfl rfl hH0.out hB0.out) hS ?_
  go_frame
  refine held_take (i := 11) (dst := some 39) rfl rfl (by kernel_rfl) (by kernel_rfl) (by kernel_rfl) (fun _ _ _ h => h) (y_move (.tmp 8) rfl rfl rfl) hS ?_
  go_frame
  refine held_call (i := 10) (dst := some 38) rfl rfl (by kernel_rfl) rfl (by go_simp) (with_any (some a) n c (ops + 1) ar fl dd i L bH b true _ hS.2.2 hE0.out hn hi hH0.out hB0.out) ?_
  rintro e w7 ⟨q7, c7, rfl, hown, hb7⟩
  have t7 := t6.out.stay hb7
  refine ⟨_, rfl, ⟨t7.d, t7.b, holdsE_below hv0.out t7.below (Nat.le_refl _)⟩, ?_⟩
  go_frame
  obtain ⟨w8, hst8, h8, hg8⟩ := run_storeVar_at (P := Try.prog) (ty := 31) t7.r (size31b (.slice q7 n c7) (.int .i64 (ops + 1)) (.int .i64 ar) (.int .i64 fl) (.bool dd)) (fit31 _ _ _ _ _ _ _ _ _ _) (one31 q7 n c7 (ops + 1) ar fl dd)
  rw [d5_splice] at h8
  have t8 := t7.putR h8 hg8
  have hl6 : w.heap.size + 1 + 1 < w5.drew.heap.size := t6.out.r.lt
  have hown8 : OwnE 47 129 w8 w.heap.size (.slice q7 n c7) (L.set i (secV bH b true)) := (hown.kept fun x hx => hg8.block _ (hown.holds.2.2 x hx).2 (fun e => by
    have := Option.some.inj e
    have := (hown.holds.2.2 x hx).1
    omega)).lower (by omega)
  refine held_skip (i := 12) (dst := none) (w' := w8) rfl rfl (by kernel_rfl) rfl (run_store_op rfl rfl rfl hst8) ⟨t8.d, t8.b, holdsE_below hv0.out t8.below (Nat.le_refl _)⟩ ?_
  go_frame
  refine held_value (i := 13) (dst := some 7) (w' := w8) (v := .int .i64 er) rfl rfl (by kernel_rfl) rfl (by go_simp) ⟨t8.d, t8.b, holdsE_below hv0.out t8.below (Nat.le_refl _)⟩ ?_
  go_frame
  refine wpAnyH_done (by kernel_rfl) ?_ _
  go_wp2
  refine bodyPost_ret (results_disk_tmp (r := 6) (u := 7) Try.results37 _ _ (w.heap.size + 1 + 1) _ _ _ _ _ rfl t8.r _ rfl) rfl ⟨q7, c7, rfl, hown8, t8.below⟩

end Go.Proofs.Ytnjandmlhncapaa
