/- Pending and New (bursaryref02), by their contracts. -/
import Derived.Test.YtnjandmlhncapaaRefDoc
import Derived.Test.YtnjandmlhncapaaOwnV
namespace Go.Proofs.Ytnjandmlhncapaa
open Go.RowKit

/-- the numbers of those of the first i sectors that are pending -/
def pendN (S : List Sc) (i : Nat) : List Int := ((List.range i).map Int.ofNat).filter fun k => ((S[k.toNat]?).map (·.is)).getD false
theorem pendN_all (S : List Sc) : pendN S S.length = pendS S := rfl
theorem pendN_zero (S : List Sc) : pendN S 0 = [] := rfl
theorem pendN_next {S : List Sc} {i : Nat} {s : Sc} (h : S[i]? = some s) : pendN S (i + 1) = pendN S i ++ if s.is then [(i : Int)] else [] := by
  unfold pendN
  rw [List.range_succ, List.map_append, List.filter_append]
  congr 1
  have e : ((S[(Int.ofNat i).toNat]?).map (·.is)).getD false = s.is := by
    show ((S[((i : Nat) : Int).toNat]?).map (·.is)).getD false = _
    rw [Int.toNat_natCast, h]; rfl
  rw [List.map_singleton, List.filter_cons, List.filter_nil, e]
  cases s.is <;> rfl
theorem pendN_le (S : List Sc) (i : Nat) : (pendN S i).length ≤ i := by
  unfold pendN
  refine Nat.le_trans (List.length_filter_le _ _) ?_
  simp

structure PeRel (w wr : World) (D : List Value) (q : Option Addr) (m c : Nat) (xs : List Int) : Prop where
  below : Below w.heap.size w wr
  d : RowV 31 wr w.heap.size D
  own : OwnV 3 wr (w.heap.size + 1) (.slice q m c) (xs.map encZ)
  size : w.heap.size + 1 ≤ wr.heap.size
theorem PeRel.len {w wr : World} {D : List Value} {q : Option Addr} {m c : Nat} {xs : List Int} (h : PeRel w wr D q m c xs) : m = xs.length := by rw [h.own.len, List.length_map]
theorem PeRel.stay {w wr w' : World} {D : List Value} {q : Option Addr} {m c : Nat} {xs : List Int} (h : PeRel w wr D q m c xs) (hb : Below wr.heap.size wr w') : PeRel w w' D q m c xs :=
  ⟨h.below.trans (hb.mono h.below.size), h.d.below hb, h.own.below hb, Nat.le_trans h.size hb.size⟩
theorem PeRel.next {w wr w1 : World} {D : List Value} {q q1 : Option Addr} {m c m1 c1 : Nat} {xs : List Int} {x : Int} {A : Obj} (h : PeRel w wr D q m c xs) (ho : OwnV 3 w1 (w.heap.size + 1) (.slice q1 m1 c1) (xs.map encZ ++ [.int .i64 x])) (hg : (wr.alloc A).grownBy w1 (q.map (·.block))) : PeRel w w1 D q1 m1 c1 (xs ++ [x]) := by
  have hb : Below w.heap.size w (wr.alloc A) := h.below.alloc h.below.size A
  have hs := hg.size
  have hz := h.size
  rw [World.size_alloc] at hs
  have far : ∀ j, q.map (·.block) = some j → w.heap.size + 1 ≤ j := fun j e => by
    cases q with
    | none => cases e
    | some a => cases e; exact (h.own.far a rfl).1
  refine ⟨hb.grown hg hb.size (fun j e => by have := far j e; omega), ?_, ?_, by omega⟩
  · exact (h.d.block (heap_alloc_old _ _ h.d.lt)).block (hg.block _ (by rw [World.size_alloc]; omega) (fun e => by have := far _ e.symm; omega))
  · rw [List.map_append]; exact ho
theorem PeRel.ready {w wr : World} {D : List Value} {q : Option Addr} {m c : Nat} {xs : List Int} (h : PeRel w wr D q m c xs) (x : Int) :
    OwnV 3 (wr.alloc (.cells #[.int .i64 x] 3)) (w.heap.size + 1) (.slice q m c) (xs.map encZ) ∧ (∀ j u, [Value.int .i64 x][j]? = some u → (wr.alloc (.cells #[.int .i64 x] 3)).cell? ((⟨wr.heap.size, 0, none⟩ : Addr).add j) = some u) ∧ w.heap.size + 1 ≤ (wr.alloc (.cells #[.int .i64 x] 3)).heap.size := by
  refine ⟨h.own.below ((Below.refl _ _).alloc (Nat.le_refl _) _), fun j u hj => ?_, by have := h.size; simp; omega⟩
  match j with
  | 0 =>
    have e : (⟨wr.heap.size, 0, none⟩ : Addr).add 0 = ⟨wr.heap.size, 0, none⟩ := rfl
    rw [e, cell_of_one (heap_alloc_new _ _)]
    exact hj
  | j + 1 => simp at hj

theorem secs_at {w : World} {q : Option Addr} {n c i : Nat} {S : List Sc} {s : Sc} (h : HoldsE w (.slice q n c) (S.map Sc.cells)) (hS : ∀ s ∈ S, s.Ok) (hi : i < n) (hs : S[i]? = some s) :
    ∃ a, q = some a ∧ ∀ j v, (secV s.h s.c s.is)[j]? = some v → w.cell? ((a.add (i * 129)).add j) = some v := by
  obtain ⟨a, e, ha, he, hc⟩ := holdsE_at h (each_ok hS) hi
  rw [List.getElem?_map, hs] at he
  obtain rfl := Option.some.inj he
  exact ⟨a, ha, hc⟩

set_option maxRecDepth 100000 in
set_option maxHeartbeats 4000000 in
theorem rpending_any (q0 : Option Addr) (c0 : Nat) (ops armed failing : Int) (dead : Bool) (S : List Sc) (w : World) (hv : HoldsE w (.slice q0 S.length c0) (S.map Sc.cells)) (hS : ∀ s ∈ S, s.Ok) (hn : S.length ≤ 4096) :
    Calls Try.prog 40 #[.agg #[.slice q0 S.length c0, .int .i64 ops, .int .i64 armed, .int .i64 failing, .bool dead]] w (fun e w' => ∃ q m c, e = .returned (.slice q m c) ∧ OwnV 3 w' (w.heap.size + 1) (.slice q m c) ((pendS S).map encZ) ∧ Below w.heap.size w w') := by
  obtain ⟨n, hnS⟩ : ∃ n, S.length = n := ⟨_, rfl⟩
  have hv0 := Lib.hid hv
  have hS0 := Lib.hid hS
  have hnS' := Lib.hid hnS
  have hpa := Lib.hid (pendN_all S)
  rw [hnS] at hn hpa ⊢
  have hv1 : Hid (HoldsE w (.slice q0 n c0) (S.map Sc.cells)) := by have := hv0.out; rw [hnS] at this; exact this
  clear hv hS hnS hv0
  have hd0 : Hid (RowV 31 (w.alloc (.cells (dL q0 n c0 ops armed failing dead).toArray 31)) w.heap.size (dL q0 n c0 ops armed failing dead)) := RowV.made w _
  have c00 : (w.alloc (.cells (dL q0 n c0 ops armed failing dead).toArray 31)).cell? ⟨w.heap.size, 0, none⟩ = some (.slice q0 n c0) := hd0.out.cell 0
  have hr0 : Hid (PeRel w (w.alloc (.cells (dL q0 n c0 ops armed failing dead).toArray 31)) (dL q0 n c0 ops armed failing dead) none 0 0 (pendN S 0)) := ⟨(Below.refl _ _).alloc (Nat.le_refl _) _, hd0.out, OwnV.nil _ _ _, by simp⟩
  clear hd0
  go_enter Try.func40, Try.ntmps40
  go_wp2_with fail
  go_loopw [3, 9] (fun v3 v9 wr => ∃ (i : Nat) (q : Option Addr) (m c : Nat), i ≤ n ∧ v9 = .int .i64 i ∧ v3 = .slice q m c ∧ Hid (PeRel w wr (dL q0 n c0 ops armed failing dead) q m c (pendN S i))) (fun _ v9 _ => n - (intOf v9).toNat)
  case atStart => exact ⟨0, none, 0, 0, by omega, by go_num, rfl, hr0⟩
  case round =>
    obtain ⟨i, q, m, c, hi, rfl, rfl, hr⟩ := hrel
    by_cases hlt : i < n
    · obtain ⟨s, hs⟩ : ∃ s, S[i]? = some s := ⟨_, List.getElem?_eq_getElem (by have := hnS'.out; omega)⟩
      have hOk := hS0.out s (List.mem_of_getElem? hs)
      have hnx := Lib.hid (pendN_next hs)
      obtain ⟨a, rfl, hcel0⟩ := secs_at (holdsE_below hv1.out hr.out.below (Nat.le_refl _)) hS0.out hlt hs
      have hm : m ≤ 4096 := by have h1 := hr.out.len; have h2 := pendN_le S i; omega
      obtain ⟨H, C, is⟩ := s
      have hcel : Hid (∀ j v, (secV H C is)[j]? = some v → wr.cell? ((a.add (i * 129)).add j) = some v) := hcel0
      have hH := Lib.hid hOk.1
      have hC := Lib.hid hOk.2
      have rz : Hid (RowV 47 (wr.alloc (.cells (secV (blk 0) (blk 0) false).toArray 47)) wr.heap.size (secV (blk 0) (blk 0) false)) := RowV.made wr _
      clear hs hOk hcel0 hr0
      cases is with
      | false =>
        go_wp2_with (first
          | (with_reducible refine wpList_load_at rfl 47 (.tmp 12) rfl Try.underlying47 rfl (vs := secV H C false) (sec_size hH.out hC.out) rfl hcel.out ?_)
          | (with_reducible refine wpList_alloc_z rfl 47 rfl alloc47 ?_)
          | ((with_reducible refine wpList_store_at rfl 47 (.tmp 5) (.tmp 13) rfl (o := 0) rfl rfl rz.out (sec_size hH.out hC.out) (sec_fits hH.out hC.out (blk_blk 0) (blk_blk 0)) (sec_one hH.out hC.out) ?_)
             intro w6 h6 hg6
             rw [sec_splice hH.out hC.out (blk_blk 0) (blk_blk 0)] at h6
             have cis : w6.cell? ⟨wr.heap.size, 128, none⟩ = some (.bool false) := by
               rw [h6.cell 128]
               unfold secV
               rw [List.getElem?_append_right (by rw [hH.out.1]; decide), hH.out.1, List.getElem?_append_right (by rw [hC.out.1]; decide), hC.out.1]
               rfl
             have b6 : Below wr.heap.size wr w6 := ((Below.refl _ _).alloc (Nat.le_refl _) _).grown hg6 (by rw [World.size_alloc]; omega) (fun j e => by have := Option.some.inj e; omega)
             have t6 := Lib.hid b6
             clear h6 hg6 b6))
        go_roundw
        case rel =>
          refine ⟨i + 1, q, m, c, by omega, by go_num, rfl, ?_⟩
          show PeRel _ _ _ _ _ _ _
          rw [hnx.out]
          simp only [Bool.false_eq_true, if_false, List.append_nil]
          exact hr.out.stay t6.out
        case measure => simp [intOf]; omega
      | true =>
        go_wp2_with (first
          | (with_reducible refine wpList_load_at rfl 47 (.tmp 12) rfl Try.underlying47 rfl (vs := secV H C true) (sec_size hH.out hC.out) rfl hcel.out ?_)
          | (with_reducible refine wpList_alloc_z rfl 47 rfl alloc47 ?_)
          | ((with_reducible refine wpList_store_at rfl 47 (.tmp 5) (.tmp 13) rfl (o := 0) rfl rfl rz.out (sec_size hH.out hC.out) (sec_fits hH.out hC.out (blk_blk 0) (blk_blk 0)) (sec_one hH.out hC.out) ?_)
             intro w6 h6 hg6
             rw [sec_splice hH.out hC.out (blk_blk 0) (blk_blk 0)] at h6
             have cis : w6.cell? ⟨wr.heap.size, 128, none⟩ = some (.bool true) := by
               rw [h6.cell 128]
               unfold secV
               rw [List.getElem?_append_right (by rw [hH.out.1]; decide), hH.out.1, List.getElem?_append_right (by rw [hC.out.1]; decide), hC.out.1]
               rfl
             have b6 : Below wr.heap.size wr w6 := ((Below.refl _ _).alloc (Nat.le_refl _) _).grown hg6 (by rw [World.size_alloc]; omega) (fun j e => by have := Option.some.inj e; omega)
             have r6 := Lib.hid (hr.out.stay b6)
             have rd := Lib.hid (r6.out.ready i)
             clear h6 hg6 b6)
          | (at_builtin
             refine wpList_append_own1 Try.underlying50 info3 rfl rfl (.tmp 16) (.tmp 18) rfl rfl rfl rd.out.1 rd.out.2.1 rfl (fun u hu => by obtain rfl := List.mem_singleton.1 hu; rfl) (by omega) (by omega) rd.out.2.2 ?_
             intro q3 c3 w3 ho hg))
        have hnext : Hid (PeRel w w3 (dL (some a) n c0 ops armed failing dead) q3 (m + 1) c3 (pendN S (i + 1))) := by
          show PeRel _ _ _ _ _ _ _
          rw [hnx.out]
          exact r6.out.next ho hg
        clear ho hg
        go_roundw
        case rel => exact ⟨i + 1, q3, m + 1, c3, by omega, by go_num, rfl, hnext⟩
        case measure => simp [intOf]; omega
    · obtain rfl : n = i := by omega
      go_wp2
      go_returns
      have h := hr.out
      rw [hpa.out] at h
      exact ⟨q, m, c, rfl, h.own, h.below⟩

/-! ### New -/
theorem madeCells_eq (Z : Array Value) (hZ : 0 < Z.size) : ∀ n : Nat, (madeCells Z (n * Z.size)).toList = (List.replicate n Z.toList).flatten
  | 0 => by simp [madeCells]
  | n + 1 => by
    apply List.ext_getElem?
    intro j
    have hl : (madeCells Z ((n + 1) * Z.size)).toList.length = (n + 1) * Z.size := by simp [madeCells]
    have get : ∀ (m j : Nat), j < m * Z.size → (madeCells Z (m * Z.size)).toList[j]? = some (Z[j % Z.size]!) := fun m j hj => by
      unfold madeCells
      rw [Array.toList_map, List.getElem?_map, Array.toList_range, List.getElem?_range hj]; rfl
    rw [List.replicate_succ, List.flatten_cons, ← madeCells_eq Z hZ n]
    have hz : Z.toList.length = Z.size := rfl
    by_cases h : j < (n + 1) * Z.size
    · rw [get _ _ h]
      by_cases h0 : j < Z.size
      · rw [List.getElem?_append_left (by rw [hz]; exact h0), Nat.mod_eq_of_lt h0, getElem!_pos Z j h0, Array.getElem?_toList, Array.getElem?_eq_getElem h0]
      · have h2 : j - Z.size < n * Z.size := by rw [Nat.succ_mul] at h; omega
        rw [List.getElem?_append_right (by rw [hz]; omega), hz, get _ _ h2, ← Nat.mod_eq_sub_mod (by omega)]
    · rw [List.getElem?_eq_none (by rw [hl]; omega), List.getElem?_eq_none]
      rw [List.length_append, hz]
      have : (madeCells Z (n * Z.size)).toList.length = n * Z.size := by simp [madeCells]
      rw [this]
      rw [Nat.succ_mul] at h
      omega

theorem made_secs (n : Nat) : (madeCells (Value.agg (secV (blk 0) (blk 0) false).toArray).cells (n * 129)).toList = ((List.replicate n (Sc.mk (blk 0) (blk 0) false)).map Sc.cells).flatten := by
  have h := madeCells_eq (secV (blk 0) (blk 0) false).toArray (by rw [zero_sec_len]; decide) n
  rw [zero_sec_len] at h
  show (madeCells (secV (blk 0) (blk 0) false).toArray (n * 129)).toList = _
  rw [h, List.map_replicate]
  rfl

set_option maxRecDepth 100000 in
set_option maxHeartbeats 2000000 in
theorem rnew_any (n : Nat) (w : World) (hn : n ≤ 4096) :
    Calls Try.prog 12 #[.int .i64 n] w (DocPost w none (dNew n) (fun v => .returned v)) := by
  obtain ⟨i0, hi, hz0, hz1, hz2⟩ := info_parts info47
  have hr0 : Hid (RowV 31 (w.alloc (.cells (dL none 0 0 0 0 0 false).toArray 31)) w.heap.size (dL none 0 0 0 0 0 false)) := RowV.made w _
  go_enter Try.func12, Try.ntmps12
  go_wp2_with (first
    | ((refine wpList_make_full _ rfl (.tmp 3) (.tmp 3) 29 rfl (w.heap.size + 1) 47 i0 (.agg (secV (blk 0) (blk 0) false).toArray) 129 Try.underlying29 hi hz0 hz1 .i64 .i64 _ _ n rfl rfl rfl rfl (by rw [hz2]; omega) (by unfold maxLen; omega) (by simp) ?_)
       intro w3 hown hg3
       have hown' := Lib.hid hown
       have hr3 := Lib.hid (hr0.out.block (hg3.block _ (by simp) (fun e => by cases e)))
       have hb3 : Hid (Below w.heap.size w w3) := ((Below.refl _ _).alloc (Nat.le_refl _) _).grown hg3 (by simp) (fun k e => by cases e)
       clear hown hg3)
    | ((with_reducible refine wpList_store_at rfl 31 (.tmp 2) (.tmp 5) rfl (o := 0) rfl rfl hr3.out (size31b _ _ _ _ _) (fit31 _ _ _ _ _ _ _ _ _ _) (one31 (some ⟨w.heap.size + 1, 0, none⟩) n n 0 (-1) (-1) false) ?_)
       intro w5 h5 hg5
       rw [d5_splice] at h5)
    | (refine bodyPost_ret (results_cell_row (P := Try.prog) Try.results12 _ _ w.heap.size 31 #[.slice (some ⟨w.heap.size + 1, 0, none⟩) n n, .int .i64 0, .int .i64 (-1), .int .i64 (-1), .bool false] (0, 0) _ rfl h5 Try.underlying31 rfl size31) rfl ?_))
  have ho := hown'.out
  rw [made_secs, World.size_alloc] at ho
  have hl : (List.replicate n (Sc.mk (blk 0) (blk 0) false)).length = n := List.length_replicate
  have hoE : OwnE 47 129 w3 (w.heap.size + 1) (.slice (some ⟨w.heap.size + 1, 0, none⟩) n n) ((List.replicate n (Sc.mk (blk 0) (blk 0) false)).map Sc.cells) := by
    refine ⟨by rw [List.length_map, hl]; exact ho, each_ok (fun s hs => ?_)⟩
    rw [List.eq_of_mem_replicate hs]
    exact ⟨blk_blk 0, blk_blk 0⟩
  have hoE5 := hoE.kept (w' := w5) (fun a ha => hg5.block _ (hoE.holds.2.2 a ha).2 (fun e => by
    have := Option.some.inj e
    have := (hoE.holds.2.2 a ha).1
    omega))
  refine ⟨some ⟨w.heap.size + 1, 0, none⟩, n, List.replicate n (Sc.mk (blk 0) (blk 0) false), 0, -1, -1, false, by rw [hl], ⟨by rw [hl]; exact hoE5.holds.1, fun a ha => (hoE5.holds.2.2 a ha).2, Tw.new n⟩, hb3.out.grown hg5 hb3.out.size (fun k e => by cases e; omega), .inr fun a ha => by have := (hoE5.holds.2.2 a ha).1; omega⟩

end Go.Proofs.Ytnjandmlhncapaa
