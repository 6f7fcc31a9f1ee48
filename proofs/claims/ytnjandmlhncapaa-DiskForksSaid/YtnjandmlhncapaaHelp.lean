/- size, keep, and slices.Equal of numbers, by their contracts. -/
import Derived.Test.YtnjandmlhncapaaArgsB
namespace Go.Proofs.Ytnjandmlhncapaa
open Go.RowKit

def szOf (n : Int) : Nat := (Int.tmod (Int.tmod n 12 + 12) 12 + 1).toNat
theorem szOf_le (n : Int) : 1 ≤ szOf n ∧ szOf n ≤ 12 := by
  have h1 := Int.tmod_lt_of_pos n (show (0 : Int) < 12 by decide)
  have h2 : -12 < Int.tmod n 12 := by
    have := Int.lt_tmod_of_pos n (show (0 : Int) < 12 by decide)
    omega
  have h3 : Int.tmod (Int.tmod n 12 + 12) 12 = (Int.tmod n 12 + 12) % 12 := Int.tmod_eq_emod_of_nonneg (by omega)
  unfold szOf
  rw [h3]
  omega

theorem size_any (n : Int) (w : World) (hn : I64 n) : Calls Try.prog 11 #[.int .i64 n] w (fun e w' => e = .returned (.int .i64 (szOf n)) ∧ w' = w) := by
  have h1 := Int.tmod_lt_of_pos n (show (0 : Int) < 12 by decide)
  have h2 : -12 < Int.tmod n 12 := by
    have := Int.lt_tmod_of_pos n (show (0 : Int) < 12 by decide)
    omega
  have h3 : Int.tmod (Int.tmod n 12 + 12) 12 = (Int.tmod n 12 + 12) % 12 := Int.tmod_eq_emod_of_nonneg (by omega)
  have h4 : ((szOf n : Nat) : Int) = (Int.tmod n 12 + 12) % 12 + 1 := by
    unfold szOf
    rw [h3]
    omega
  have hr := hn
  unfold I64 at hr
  obtain ⟨hr1, hr2⟩ := hr
  rw [h4]
  go_enter Try.func11, Try.ntmps11
  go_wp2
  go_ret
  exact ⟨congrArg (fun z : Int => Ending.returned (.int .i64 z)) (by omega), rfl⟩

/-- a list of numbers that is read -/
def ReadI (w : World) (v : Value) (xs : List Int) : Prop := ∃ q c, v = .slice q xs.length c ∧ (q = none → xs = []) ∧ ∀ a, q = some a → a.spot = none ∧ ∀ j x, xs[j]? = some x → w.cell? ⟨a.block, a.off + j, none⟩ = some (.int .i64 x)

theorem owns_readI {w : World} {base : Nat} {v : Value} {xs : List Int} (h : w.ownsRow base 3 1 v xs.length (xs.map encZ)) : ReadI w v xs := by
  rcases h.2 with ⟨rfl, h0⟩ | ⟨g, cap, cur, rfl, hg, hh, hle, hm, hsz, htk⟩
  · have : xs = [] := List.eq_nil_of_length_eq_zero h0
    subst this
    exact ⟨none, 0, rfl, fun _ => rfl, fun a ha => by cases ha⟩
  · refine ⟨some ⟨g, 0, none⟩, cap, rfl, (fun e => by cases e), fun a ha => ?_⟩
    cases ha
    refine ⟨rfl, fun j x hx => ?_⟩
    have hj := (List.getElem?_eq_some_iff.1 hx).1
    rw [cell_of_row w g _ cur 3 (0, 0) hh]
    have h3 := congrArg (·[j]?) htk
    simp only [Nat.mul_one] at h3
    rw [List.getElem?_take_of_lt hj] at h3
    rw [← Array.getElem?_toList, Nat.zero_add, h3, List.getElem?_map, hx, Option.map_some]

theorem below_drewN {B : Nat} (w : World) : ∀ q : Nat, Below B w (w.drewN q) := fun _ => ⟨rfl, rfl, rfl, Nat.le_refl _, fun _ _ => rfl⟩

theorem eqInts_any (v u : Value) (xs ys : List Int) (w : World) (hv : ReadI w v xs) (hu : ReadI w u ys) (hl : xs.length ≤ 2048) (hy : ys.length ≤ 2048) (hne : ys = [] → xs = []) :
    Calls Try.prog 31 #[v, u] w (fun e w' => e = .returned (.bool (xs == ys)) ∧ Below w.heap.size w w') := by
  obtain ⟨q, c, rfl, h0, h1⟩ := hv
  obtain ⟨r, d, rfl, k0, k1⟩ := hu
  cases xs with
  | nil =>
    refine (Try.slices_Equal_int_empty q r c ys.length d w (by omega)).mono ?_
    rintro e w' ⟨rfl, rfl⟩
    refine ⟨?_, Below.refl _ _⟩
    cases ys <;> simp
  | cons x xs =>
    cases q with
    | none => cases h0 rfl
    | some a =>
      cases r with
      | none => have := hne (k0 rfl); cases this
      | some b =>
        obtain ⟨hs, ha⟩ := h1 a rfl
        obtain ⟨ht, hb⟩ := k1 b rfl
        obtain ⟨ab, ao, asp⟩ := a
        obtain ⟨bb, bo, bsp⟩ := b
        simp only at hs ht
        subst hs
        subst ht
        refine (Try.slices_Equal_int ab ao _ c bb bo _ d (x :: xs) ys w (Nat.le_refl _) (Nat.le_refl _) (by omega) (by omega) (fun j hj => ?_) (fun j hj => ?_)).mono ?_
        · have := ha j _ (List.getElem?_eq_getElem hj)
          simpa [List.getD, List.getElem?_eq_getElem hj] using this
        · have := hb j _ (List.getElem?_eq_getElem hj)
          simpa [List.getD, List.getElem?_eq_getElem hj] using this
        · rintro e w' ⟨rfl, n, rfl⟩
          exact ⟨by rw [List.take_length, List.take_length], below_drewN w n⟩

/-! ### keep -/
theorem info4 : (Try.prog.info? 4).map (fun i => (i.zero, i.size, i.bytes)) = some (some (.bool false), 1, 1) := by kernel_rfl
def bools (ks : List Bool) : List (List Value) := ks.map fun b => [.bool b]
theorem bools_each (ks : List Bool) : Each 1 (bools ks) := by
  intro e he
  obtain ⟨b, _, rfl⟩ := List.mem_map.1 he
  refine ⟨rfl, fun v hv => ?_⟩
  rw [List.mem_singleton.1 hv]; rfl
theorem bools_flat (ks : List Bool) : (bools ks).flatten = ks.map Value.bool := by
  unfold bools
  induction ks with
  | nil => rfl
  | cons b ks ih => rw [List.map_cons, List.flatten_cons, ih]; rfl

theorem KeepV.holds {w : World} {q : Option Addr} {n c : Nat} {ks : List Bool} (h : KeepV w (.slice q n c) ks) {k : Nat} (hk : k ≤ n) (c' : Nat) : HoldsE w (.slice q k c') (bools (ks.take k)) := by
  obtain ⟨q', c0, he, hc, hm, h0, h1⟩ := h
  cases he
  refine ⟨q, c', by unfold bools; rw [List.length_map, List.length_take, Nat.min_eq_left hk], fun hq => ?_, fun a ha j x hx => ?_⟩
  · rw [(h0 hq).1, List.take_nil]; rfl
  · rw [bools_flat, List.getElem?_map] at hx
    obtain ⟨b, hb, rfl⟩ := Option.map_eq_some_iff.1 hx
    have hj := (List.getElem?_eq_some_iff.1 hb).1
    rw [List.length_take] at hj
    rw [List.getElem?_take_of_lt (by omega)] at hb
    exact h1 a ha j b hb

theorem OwnE.keep {w : World} {base : Nat} {q : Option Addr} {n c : Nat} {ks : List Bool} (h : OwnE 4 1 w base (.slice q n c) (bools ks)) (L : List Nat) (hL : ∀ x ∈ L, x < base) : Keep w (.slice q n c) ks L := by
  obtain ⟨⟨q', c', he, h0, h1⟩, _, h2⟩ := h.holds
  cases he
  refine ⟨q, c, by unfold bools; rw [List.length_map], fun hq => ?_, fun a ha => ⟨fun _ hx => ?_, fun j x hx => ?_⟩⟩
  · have := h0 hq
    unfold bools at this
    exact List.map_eq_nil_iff.1 this
  · have := (h2 a ha).1
    have := hL _ hx
    omega
  · refine h1 a ha j (.bool x) ?_
    rw [bools_flat, List.getElem?_map, hx]; rfl

set_option maxHeartbeats 1000000 in
theorem keep_any (o : OpV) (w : World) (ho : IsOp w o) :
    Calls Try.prog 32 #[.agg o.cells.toArray] w (fun e w' => ∃ v, e = .returned v ∧ Below w.heap.size w w' ∧ ∀ L : List Nat, (∀ x ∈ L, x < w.heap.size) → Keep w' v (o.ks.take 60) L) := by
  obtain ⟨kind, pos, num, byte, ks, kv⟩ := o
  have hkv := ho.keep
  simp only at hkv
  obtain ⟨q, c, rfl, hc, hm, h0, h1⟩ := hkv
  obtain ⟨k, hk⟩ : ∃ k : Nat, k = min ks.length 60 := ⟨_, rfl⟩
  have hmin : min (ks.length : Int) 60 = (k : Int) := by omega
  have hkl : k ≤ ks.length := by omega
  have hk6 : k ≤ 60 := by omega
  have hkn : (k : Int) ≤ c := by omega
  have htk : ks.take k = ks.take 60 := by
    rw [hk, List.take_eq_take_iff]; omega
  have hKV : KeepV w (.slice q ks.length c) ks := ⟨q, c, rfl, hc, hm, h0, h1⟩
  have hb1 : Hid (Below w.heap.size w (w.alloc (.cells #[.int .i64 kind, .int .i64 pos, .int .i64 num, .int .u8 byte, .slice q ks.length c] 35))) := (Below.refl _ _).alloc (Nat.le_refl _) _
  have hb2 := Lib.hid (hb1.out.alloc hb1.out.size (.cells #[] 4))
  have hH := Lib.hid ((hKV.below hb2.out (Nat.le_refl _)).holds hkl c)
  have hO : Hid (OwnE 4 1 ((w.alloc (.cells #[.int .i64 kind, .int .i64 pos, .int .i64 num, .int .u8 byte, .slice q ks.length c] 35)).alloc (.cells #[] 4)) (w.heap.size + 1) (.slice (some ⟨w.heap.size + 1, 0, none⟩) 0 0) []) := by
    have h := OwnE.empty (T := 4) (s := 1) (w := w.alloc (.cells #[.int .i64 kind, .int .i64 pos, .int .i64 num, .int .u8 byte, .slice q ks.length c] 35)) (base := w.heap.size + 1) (by simp)
    rw [World.size_alloc] at h
    exact h
  clear ho hKV h0 h1 hk
  unfold OpV.cells
  go_enter Try.func32, Try.ntmps32
  go_wp2_with (
    (with_reducible refine wpList_append_elems Try.underlying33 info4 rfl (by decide) rfl (.tmp 3) (.tmp 10) rfl rfl rfl hO.out hH.out (bools_each _) (by omega) (by omega) (by simp) ?_)
    intro q2 c2 w2 ho2 hg2
    have ho2' := Lib.hid ho2
    have hg2' := Lib.hid hg2
    clear ho2 hg2)
  go_ret
  rw [Nat.zero_add, List.nil_append, htk] at ho2'
  have hb3 := hb2.out.grown hg2'.out (by simp <;> omega) (fun j e => by cases e; show w.heap.size ≤ w.heap.size + 1; omega)
  refine ⟨_, rfl, hb3, fun L hL => ?_⟩
  have h := ho2'.out.keep L (fun x hx => by have := hL x hx; omega)
  first | exact h | (rw [Nat.zero_add]; exact h) | (simpa using h)

end Go.Proofs.Ytnjandmlhncapaa
