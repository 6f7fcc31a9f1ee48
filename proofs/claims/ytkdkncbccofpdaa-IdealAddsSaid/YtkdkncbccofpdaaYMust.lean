/- What a row must be: keyed, noted, bounded, and mustBe. -/
import Derived.Test.YtkdkncbccofpdaaYChk
namespace Go.Proofs.Ytkdkncbccofpdaa
open Go.RowKit

/-- the block g begins with these cells -/
def Boxed (w : World) (g : Nat) (vs : List Value) : Prop := ∀ j x, vs[j]? = some x → w.cell? ((⟨g, 0, none⟩ : Addr).add j) = some x
theorem Boxed.all {w : World} {g : Nat} {vs : List Value} (h : Boxed w g vs) : ∀ j x, vs[j]? = some x → w.cell? ((⟨g, 0, none⟩ : Addr).add j) = some x := h
theorem Boxed.below {B : Nat} {w w' : World} {g : Nat} {vs : List Value} (h : Boxed w g vs) (hb : Below B w w') (hB : w.heap.size ≤ B) : Boxed w' g vs := fun j x hj => cell_keeps hb hB (h j x hj)
theorem Boxed.made {T : TypeId} (w : World) (vs : List Value) : Boxed (w.alloc (.cells vs.toArray T)) w.heap.size vs := (RowV.made w vs).part (pre := []) (rest := []) (by simp) rfl
theorem Boxed.cell {w : World} {g : Nat} {vs : List Value} (h : Boxed w g vs) (j : Nat) {x : Value} (hx : vs[j]? = some x) : w.cell? ⟨g, j, none⟩ = some x := by
  have := h j x hx
  have hadd : (⟨g, 0, none⟩ : Addr).add j = ⟨g, j, none⟩ := by unfold Addr.add; split <;> simp_all
  rwa [hadd] at this

theorem two_boxes {w W : World} {T1 T2 : TypeId} {xs ys : List Value} (h : (w.alloc (.cells xs.toArray T1)).alloc (.cells ys.toArray T2) = W) : Below w.heap.size w W ∧ Boxed W w.heap.size xs ∧ Boxed W (w.heap.size + 1) ys ∧ W.heap.size = w.heap.size + 2 := by
  subst h
  refine ⟨((Below.refl _ _).alloc (Nat.le_refl _) _).alloc (by simp) _, (Boxed.made w _).below ((Below.refl _ _).alloc (Nat.le_refl _) _) (by simp), ?_, by simp⟩
  have := Boxed.made (T := T2) (w.alloc (.cells xs.toArray T1)) ys
  simpa using this
theorem one_box {w W : World} {T1 : TypeId} {xs : List Value} (h : w.alloc (.cells xs.toArray T1) = W) : Below w.heap.size w W ∧ Boxed W w.heap.size xs ∧ W.heap.size = w.heap.size + 1 := by
  subst h
  exact ⟨(Below.refl _ _).alloc (Nat.le_refl _) _, Boxed.made w _, by simp⟩

def keyE (bs : List BdD) (k : KeyD) : Int := if 0 ≤ k.t ∧ k.t < bs.length then 0 else 151
def noteE (r : RowD) : Int := if r.note.size ≤ 8 then 0 else 3
def inB (b : BdD) (v : Int) : Bool := decide (b.lo ≤ v) && decide (v ≤ b.hi)
def boundE (bs : List BdD) (r : RowD) : Int := match bs[r.key.t.toNat]? with
  | some b => if inB b r.val = true then 0 else 152
  | none => 152
def rowE (bs : List BdD) (r : RowD) : Int := if keyE bs r.key = 0 then (if noteE r = 0 then boundE bs r else 3) else 151
theorem keyE_or (bs : List BdD) (k : KeyD) : (0 ≤ k.t ∧ k.t < bs.length ∧ keyE bs k = 0) ∨ ((k.t < 0 ∨ (bs.length : Int) ≤ k.t) ∧ keyE bs k = 151) := by
  unfold keyE
  by_cases h : 0 ≤ k.t ∧ k.t < bs.length
  · exact .inl ⟨h.1, h.2, if_pos h⟩
  · exact .inr ⟨by omega, if_neg h⟩
theorem noteE_or (r : RowD) : (r.note.size ≤ 8 ∧ noteE r = 0) ∨ (8 < r.note.size ∧ noteE r = 3) := by
  unfold noteE
  by_cases h : r.note.size ≤ 8
  · exact .inl ⟨h, if_pos h⟩
  · exact .inr ⟨by omega, if_neg h⟩
theorem boundE_or {bs : List BdD} {r : RowD} {b : BdD} (h : bs[r.key.t.toNat]? = some b) : (b.lo ≤ r.val ∧ r.val ≤ b.hi ∧ boundE bs r = 0) ∨ ((r.val < b.lo ∨ b.hi < r.val) ∧ boundE bs r = 152) := by
  unfold boundE inB
  rw [h]
  by_cases h1 : b.lo ≤ r.val ∧ r.val ≤ b.hi
  · exact .inl ⟨h1.1, h1.2, by simp [h1]⟩
  · refine .inr ⟨by omega, ?_⟩
    simp only [Bool.and_eq_true, decide_eq_true_eq, if_neg h1]
theorem boundE_range (bs : List BdD) (r : RowD) : boundE bs r = 0 ∨ boundE bs r = 152 := by
  unfold boundE
  repeat' split
  all_goals simp

set_option maxRecDepth 100000 in
set_option maxHeartbeats 1000000 in
theorem keyed_any (q : Option Addr) (n c : Nat) (bs : List BdD) (t id v : Int) (s : ByteArray) (w : World) (hl : bs.length = n) (_hn : n ≤ 9223372036854775807) :
    Calls Try.prog 54 #[.agg #[.slice q n c], .agg #[.int .i64 t, .int .u16 id, .int .i64 v, .string s]] w (fun e w' => e = .returned (.int .i64 (keyE bs ⟨t, id⟩)) ∧ Below w.heap.size w w') := by
  rcases keyE_or bs ⟨t, id⟩ with ⟨h1, h2, e⟩ | ⟨h1, e⟩
  · have h1' : 0 ≤ t := h1
    have h2' : t < (n : Int) := by rw [← hl]; exact h2
    have h3' : ¬ t < 0 := by omega
    rw [e]
    clear e h1 h2 hl
    go_enter Try.func54, Try.ntmps54
    go_wp2
    go_ret
    exact ⟨rfl, by go_grown⟩
  · rw [e]
    clear e
    by_cases h0 : t < 0
    · clear h1 hl
      go_enter Try.func54, Try.ntmps54
      go_wp2
      go_ret
      exact ⟨rfl, by go_grown⟩
    · have h2' : (n : Int) ≤ t := by rw [← hl]; exact h1.resolve_left h0
      have h0' : 0 ≤ t := by omega
      clear h1 hl
      go_enter Try.func54, Try.ntmps54
      go_wp2
      go_ret
      exact ⟨rfl, by go_grown⟩

set_option maxRecDepth 100000 in
set_option maxHeartbeats 1000000 in
theorem noted_any (q : Option Addr) (n c : Nat) (r : RowD) (t id v : Int) (s : ByteArray) (hr : r.note = s) (w : World) (hs : s.size ≤ maxLen) :
    Calls Try.prog 55 #[.agg #[.slice q n c], .agg #[.int .i64 t, .int .u16 id, .int .i64 v, .string s]] w (fun e w' => e = .returned (.int .i64 (noteE r)) ∧ Below w.heap.size w w') := by
  unfold maxLen at hs
  subst hr
  rcases noteE_or r with ⟨h1, e⟩ | ⟨h1, e⟩
  all_goals
    rw [e]
    clear e
    go_enter Try.func55, Try.ntmps55
    go_wp2
    go_ret
    exact ⟨rfl, by go_grown⟩

set_option maxRecDepth 100000 in
set_option maxHeartbeats 1000000 in
theorem bounded_any (q : Option Addr) (n c : Nat) (bs : List BdD) (t id v : Int) (s : ByteArray) (w : World) (h : SchOn w q n c bs) (h0 : 0 ≤ t) (h1 : t < n) :
    Calls Try.prog 56 #[.agg #[.slice q n c], .agg #[.int .i64 t, .int .u16 id, .int .i64 v, .string s]] w (fun e w' => e = .returned (.int .i64 (boundE bs ⟨⟨t, id⟩, v, s⟩)) ∧ Below w.heap.size w w') := by
  have hm := Nat.le_trans h.le h.cap
  unfold maxLen at hm
  obtain ⟨k, rfl⟩ : ∃ k : Nat, t = k := ⟨t.toNat, by omega⟩
  have hk : k < n := by omega
  obtain ⟨a, ⟨lo, hi⟩, rfl, hx, hok, hc⟩ := h.at hk
  have hw2 : Hid (Below w.heap.size w ((w.alloc (.cells #[.slice (some a) n c] 24)).alloc (.cells #[.int .i64 k, .int .u16 id, .int .i64 v, .string s] 68))) := by
    show Below _ _ _
    exact ((Below.refl _ _).alloc (Nat.le_refl _) _).alloc (by simp) _
  have hcell : Hid (∀ j x, ([.int .i64 lo, .int .i64 hi] : List Value)[j]? = some x → (((w.alloc (.cells #[.slice (some a) n c] 24)).alloc (.cells #[.int .i64 k, .int .u16 id, .int .i64 v, .string s] 68))).cell? ((a.add (k * 2)).add j) = some x) :=
    fun j x hj => cell_keeps hw2.out (Nat.le_refl _) (hc j x hj)
  have hb := boundE_or (bs := bs) (r := ⟨⟨k, id⟩, v, s⟩) (b := ⟨lo, hi⟩) (by simpa using hx)
  clear hc hx hok h hw2
  rcases hb with ⟨h2, h3, e⟩ | ⟨h2, e⟩
  · rw [e]
    clear e
    have h2' : lo ≤ v := h2
    have h3' : v ≤ hi := h3
    clear h2 h3
    go_enter Try.func56, Try.ntmps56
    go_wp2_with (first | (with_reducible refine wpList_load_at rfl 75 (.tmp 11) rfl Try.underlying75 rfl (sizeBd lo hi) rfl hcell.out ?_))
    go_ret
    exact ⟨rfl, by go_grown⟩
  · rw [e]
    clear e
    by_cases h4 : v < lo
    · clear h2
      go_enter Try.func56, Try.ntmps56
      go_wp2_with (first | (with_reducible refine wpList_load_at rfl 75 (.tmp 11) rfl Try.underlying75 rfl (sizeBd lo hi) rfl hcell.out ?_))
      go_ret
      exact ⟨rfl, by go_grown⟩
    · have h5 : hi < v := h2.resolve_left h4
      have h6 : lo ≤ v := by omega
      clear h2
      go_enter Try.func56, Try.ntmps56
      go_wp2_with (first | (with_reducible refine wpList_load_at rfl 75 (.tmp 11) rfl Try.underlying75 rfl (sizeBd lo hi) rfl hcell.out ?_))
      go_ret
      exact ⟨rfl, by go_grown⟩
end Go.Proofs.Ytkdkncbccofpdaa
