/- The contract of all: what the sectors say, in order, in memory of its own. -/
import Derived.Test.YtnjandmlhncapaaCopyD
import Derived.Test.YtnjandmlhncapaaHidesP
namespace Go.Proofs.Ytnjandmlhncapaa
open Go.RowKit

/-- what all sectors say -/
def saysL (d : Dk) : List (List Int) := (List.range d.held.length).map fun i : Nat => d.says (i : Int)
theorem saysL_len (d : Dk) : (saysL d).length = d.held.length := by simp [saysL]
theorem saysL_get {d : Dk} {i : Nat} (h : i < d.held.length) : (saysL d)[i]? = some (d.says (i : Int)) := by simp [saysL, h]

structure AllRel (w wr : World) (p2 : Pl) (d : Dk) (n B : Nat) (q : Option Addr) (c i : Nat) : Prop where
  below : Below w.heap.size w wr
  own : OwnE 37 64 wr B (.slice q i c) (((saysL d).take i).map bl)
  disk : ∃ d', At wr p2 d' ∧ Calm d' n ∧ d'.cache = d.cache ∧ d'.held = d.held ∧ d.ops ≤ d'.ops ∧ d'.ops ≤ d.ops + i
  low : ∀ x ∈ p2.L, w.heap.size ≤ x ∧ x < B
  base : w.heap.size ≤ B ∧ B ≤ wr.heap.size

theorem AllRel.far {w wr : World} {p2 : Pl} {d : Dk} {n B c i : Nat} {q : Option Addr} (h : AllRel w wr p2 d n B q c i) : ∀ a, q = some a → a.block ∉ p2.L := fun a ha hx => by
  have h1 := (h.own.holds.2.2 a ha).1
  have h2 := (h.low _ hx).2
  omega

theorem AllRel.next {w wr w2 w3 w4 : World} {p2 : Pl} {d d' : Dk} {n B c c4 i : Nat} {q q4 : Option Addr} {A A' : Obj} {b : List Int} (h : AllRel w wr p2 d n B q c i) (ht : Tch p2.L wr w2) (hA : At w2 p2 (dRead d')) (hc : Calm d' n) (hd : d'.cache = d.cache ∧ d'.held = d.held ∧ d.ops ≤ d'.ops ∧ d'.ops ≤ d.ops + i)
    (hg3 : (w2.alloc A).grownBy w3 (some w2.heap.size)) (hg4 : (w3.alloc A').grownBy w4 (blockOf q)) (hb : (saysL d)[i]? = some b) (ho : OwnE 37 64 w4 B (.slice q4 (i + 1) c4) (((saysL d).take i).map bl ++ [bl b])) : AllRel w w4 p2 d n B q4 c4 (i + 1) := by
  have s2 := ht.size
  have s3 := hg3.size
  have s4 := hg4.size
  rw [World.size_alloc] at s3 s4
  have hw := h.below.size
  have b2 : Below w.heap.size w w2 := h.below.trans (ht.to_below hw (fun x hx => (h.low x hx).1))
  have b3 : Below w.heap.size w w3 := (b2.alloc b2.size A).grown hg3 (by rw [World.size_alloc]; omega) (fun j e => by have := Option.some.inj e; omega)
  have hq : ∀ j, blockOf q = some j → B ≤ j := fun j e => by
    unfold blockOf at e
    cases q with
    | none => cases e
    | some a => cases e; exact (h.own.holds.2.2 a rfl).1
  have b4 : Below w.heap.size w w4 := (b3.alloc b3.size A').grown hg4 (by rw [World.size_alloc]; omega) (fun j e => Nat.le_trans h.base.1 (hq j e))
  have hA3 : At (w3.alloc A') p2 (dRead d') := ((hA.alloc A).other hg3 (hA.not_in (Nat.le_refl _))).alloc A'
  have hA4 : At w4 p2 (dRead d') := by
    have hk : ∀ x ∈ p2.L, w4.heap[x]? = (w3.alloc A').heap[x]? := fun x hx => by
      refine hg4.block x (by rw [World.size_alloc]; have := (h.low x hx).2; have := h.base.2; omega) (fun e => ?_)
      have h1 := hq x e.symm
      have h2 := (h.low x hx).2
      omega
    exact hA3.block (hk _ (g_in p2)) (hk _ (h_in p2)) (hk _ (m_in p2))
  refine ⟨b4, ?_, ⟨dRead d', hA4, ⟨hc.dead, hc.al, hc.fl, hc.len⟩, hd.1, hd.2.1, ?_, ?_⟩, h.low, h.base.1, by have := h.base.2; omega⟩
  · rw [List.take_add_one, hb]
    simpa using ho
  · show d.ops ≤ d'.ops + 1; omega
  · show d'.ops + 1 ≤ d.ops + ((i + 1 : Nat) : Int); omega

theorem holds_one (w : World) (b : List Int) : HoldsE (w.alloc (.cells (bl b).toArray 37)) (.slice (some ⟨w.heap.size, 0, none⟩) 1 1) [bl b] := by
  refine ⟨some ⟨w.heap.size, 0, none⟩, 1, rfl, (fun e => by cases e), fun a ha j x hx => ?_⟩
  cases ha
  simp only [List.flatten_cons, List.flatten_nil, List.append_nil] at hx
  rw [add0, (RowV.made (T := 37) w (bl b)).cell j, hx]
theorem each_one {b : List Int} (h : b.length = 64) : Each 64 [bl b] := by
  intro e he
  obtain rfl := List.mem_singleton.1 he
  exact ⟨by rw [bl_len, h], bl_one b⟩
theorem fold_zip : ∀ (xs : List Value) (k : Nat) (zs : Array Value), zs.size = k + xs.length → List.foldl (fun (cs : Array Value) (x : Value × Nat) => cs.setIfInBounds x.2 x.1) zs (xs.zipIdx k) = (zs.toList.take k ++ xs).toArray
  | [], k, zs, h => by
    have hl : zs.toList.length ≤ k := by simp at h ⊢; omega
    rw [List.zipIdx_nil, List.foldl_nil, List.append_nil, List.take_of_length_le hl]
  | x :: xs, k, zs, h => by
    have hk : k < zs.toList.length := by simp at h ⊢; omega
    rw [List.zipIdx_cons, List.foldl_cons, fold_zip xs (k + 1) _ (by simp at h ⊢; omega)]
    congr 1
    rw [Array.toList_setIfInBounds, List.take_add_one, List.take_set, List.getElem?_set_self hk, List.set_eq_of_length_le (by rw [List.length_take]; omega)]
    simp
theorem fold_blk (b : List Int) (zs : Array Value) (h : zs.size = b.length) : List.foldl (fun (cs : Array Value) (x : Value × Nat) => cs.setIfInBounds x.2 x.1) zs (bl b).zipIdx = (bl b).toArray := by
  rw [fold_zip (bl b) 0 zs (by rw [h, bl_len]; omega)]
  simp

theorem rfl_pos : 0 < 64 := by decide
theorem hz : (agg z64).cells.size = 64 := rfl

set_option maxRecDepth 100000 in
set_option maxHeartbeats 2000000 in
theorem all_any (p : Pl) (d : Dk) (n : Nat) (w : World) (k : At w p d) (hc : Calm d n) (h0 : 0 ≤ d.ops) (h1 : d.ops ≤ 1000000) :
    Calls Try.prog 25 #[ptr p] w (fun e w' => ∃ q c, e = .returned (.tuple #[.slice q n c, .bool true]) ∧ OwnE 37 64 w' w.heap.size (.slice q n c) ((saysL d).map bl) ∧ Below w.heap.size w w') := by
  have hk := Lib.hid k
  have hc0 := Lib.hid hc
  have hn : n ≤ 2048 := by rw [← hc.len]; exact k.good.n
  have hle := Lib.hid hc.len
  clear k hc
  go_enter Try.func25, Try.ntmps25
  go_wp2_with fail
  refine (copy_any p d w hk.out).mono ?_
  rintro e w1 ⟨p2, rfl, hA, hb, hL⟩
  have hrel0 : Hid (AllRel w w1 p2 d n w1.heap.size none 0 0) := ⟨hb, ⟨World.ownsRow_nil w1 w1.heap.size 37 64, fun e he => by simp at he⟩, ⟨d, hA, hc0.out, rfl, rfl, Int.le_refl _, by simp⟩, fun x hx => ⟨hL x hx, by
    simp only [Pl.L, List.mem_cons, List.not_mem_nil, or_false] at hx
    rcases hx with rfl | rfl | rfl
    · exact hA.glt
    · exact hA.hlt
    · exact hA.mlt⟩, hb.size, Nat.le_refl _⟩
  have hB1 : Hid (w.heap.size ≤ w1.heap.size) := hb.size
  obtain ⟨B, hBe⟩ : ∃ B, w1.heap.size = B := ⟨_, rfl⟩
  rw [hBe] at hrel0 hB1
  clear hBe
  have hln := Lib.hid (len_any p2 d w1 hA)
  rw [hle.out] at hln
  clear hA hb hL
  go_wp2_with fail
  refine hln.out.mono ?_
  rintro e w1' ⟨rfl, hw⟩
  obtain rfl := hw.symm
  clear hln
  go_wp2_with fail
  go_loopw [4, 13] (fun v4 v13 wr => ∃ (i : Nat) (q : Option Addr) (c : Nat), i ≤ n ∧ v13 = .int .i64 i ∧ v4 = .slice q i c ∧ Hid (AllRel w wr p2 d n B q c i)) (fun _ v13 _ => n - (intOf v13).toNat)
  case atStart => exact ⟨0, none, 0, Nat.zero_le _, rfl, rfl, hrel0⟩
  case round =>
    obtain ⟨i, q, c, hi, rfl, rfl, hr⟩ := hrel
    by_cases hlt : i < n
    · obtain ⟨d', hA, hcm, hca, hhe, ho0, ho1⟩ := hr.out.disk
      have hrd := read_any p2 d' wr hA (by omega) (by omega) i
      rw [hcm.rd (by omega) (by omega)] at hrd
      obtain ⟨b, hb⟩ : ∃ b, d'.says (i : Int) = b := ⟨_, rfl⟩
      have hb64 : b.length = 64 := by rw [← hb]; exact Dk.says_len hA.good (by omega) (by rw [hcm.len]; omega)
      rw [hb] at hrd
      have hrd' := Lib.hid hrd
      have hbl64 : (bl b).length = 64 := by rw [bl_len, hb64]
      have hbs : Hid ((saysL d)[i]? = some b) := by
        show _ = _
        rw [saysL_get (by rw [hle.out]; exact hlt), ← hb]
        unfold Dk.says Dk.hold
        rw [hca, hhe]
      have hcm' := Lib.hid hcm
      have hdd := Lib.hid (And.intro hca (And.intro hhe (And.intro ho0 ho1)))
      clear hrd hA hcm hca hhe ho0 ho1 hb
      go_wp2_with (first
        | (go_at_call 19; refine hrd'.out.mono ?_; clear hrd'; rintro e w2 ⟨rfl, hA, hT⟩
           have hA2 := Lib.hid hA
           have hT2 := Lib.hid hT
           have ho2 : Hid (OwnE 37 64 w2 B (.slice q i c) (((saysL d).take i).map bl)) := hr.out.own.kept (fun a ha => hT.block _ (hr.out.own.holds.2.2 a ha).2 (hr.out.far a ha))
           have hsz2 : Hid (B ≤ w2.heap.size) := Nat.le_trans hr.out.base.2 hT.size
           have hown3 : ∀ w3 : World, (w2.alloc (.cells (bl z64).toArray 37)).grownBy w3 (some w2.heap.size) → OwnE 37 64 (w3.alloc (.cells (bl b).toArray 37)) B (.slice q i c) (((saysL d).take i).map bl) := fun w3 hg => by
             refine ho2.out.kept (fun a ha => ?_)
             have hlt := (ho2.out.holds.2.2 a ha).2
             have hs := hg.size
             rw [World.size_alloc] at hs
             rw [heap_alloc_old _ _ (by omega), hg.block _ (by rw [World.size_alloc]; omega) (by intro e; have := Option.some.inj e; omega), heap_alloc_old _ _ hlt]
           have hsz3 : ∀ w3 : World, (w2.alloc (.cells (bl z64).toArray 37)).grownBy w3 (some w2.heap.size) → B ≤ (w3.alloc (.cells (bl b).toArray 37)).heap.size := fun w3 hg => by
             have hs := hg.size
             have := hsz2.out
             rw [World.size_alloc] at hs
             rw [World.size_alloc]; omega
           have hown3 := Lib.hid hown3
           have hsz3 := Lib.hid hsz3
           have r2 : Hid (RowV 37 (w2.alloc (.cells (bl z64).toArray 37)) w2.heap.size (bl z64)) := RowV.made w2 _
           clear hA hT)
        | (with_reducible refine wpList_alloc_z rfl 37 rfl alloc37z ?_)
        | ((with_reducible refine wpList_store_at rfl 37 (.tmp 7) (.tmp 20) rfl (o := 0) rfl rfl r2.out (bl_size hb64) (bl_fits hb64 z64_len) (bl_one b) ?_)
           intro w3 hr3 hg3
           rw [bl_splice hb64 z64_len] at hr3
           have r3 := Lib.hid hr3
           have hg3' := Lib.hid hg3
           clear hr3 hg3)
        | (with_reducible refine wpList_load_at rfl 37 (.tmp 7) rfl Try.underlying37 rfl (vs := bl b) (bl_size hb64) rfl (r3.out.part (o := 0) (pre := []) (rest := []) (bl_part b) rfl) ?_)
        | (at_builtin
           rw [fold_blk b _ (by rw [hb64]; rfl)]
           refine wpList_append_elems Try.underlying56 info37 hz rfl_pos rfl (.tmp 24) (.tmp 26) rfl rfl rfl (hown3.out w3 hg3'.out) (holds_one w3 b) (each_one hb64) (by omega) (by omega) (hsz3.out w3 hg3'.out) ?_
           intro q4 c4 w4 ho4 hg4))
      have hnext : Hid (AllRel w w4 p2 d n B q4 c4 (i + 1)) := hr.out.next hT2.out hA2.out hcm'.out hdd.out hg3'.out hg4 hbs.out ho4
      clear ho4 hg4
      go_roundw
      case rel => exact ⟨i + 1, q4, c4, by omega, by go_num, rfl, hnext⟩
      case measure => simp [intOf]; omega
    · obtain rfl : n = i := by omega
      go_wp2
      go_returns
      have ho := hr.out.own
      rw [List.take_of_length_le (by rw [saysL_len, hle.out]; exact Nat.le_refl _)] at ho
      exact ⟨q, c, rfl, ho.lower hB1.out, hr.out.below⟩

end Go.Proofs.Ytnjandmlhncapaa
