/- Parts of the proof: Rows, keys and schemas as they lie in memory; nothing of a program is claimed here; Compare of row: how two keys stand; Check of row, and the document's Right: which schemas may be; What a row must be: keyed, noted, bounded, and mustBe; mustBe of row, with one need and with all three; CheckKey, CheckRow and CheckList of row; CheckList of row; Rows of the call's own: append, append of a make, copy and clear, as laws for the walk; nothing of a program is claimed here; spliced of row: a copy of a list, of whose rows some have given way to others; over of the laws on rows, and Of of row and of the document; Same of row, slices.Equal of rows, and Same of the document; Kids and contents as they lie in memory, and worlds that differ in one block; nothing of a program is claimed here -/
import Derived.Test.YtocekhckmpkbmaaGreatU01
import Derived.Laws.StructEq
import Derived.Laws.OwnMore
import Derived.Handy
import Derived.IntWalk
import Derived.Lib.SmallJoins
import Derived.StillTailTactics
import Derived.BigQuiet
import Derived.Deep.QuietTactic
import Derived.Deep.RegionHeld3
import Derived.Maps.AppendAt
import Derived.Lib.AppendZerosOnto
import Derived.Lib.SlBuf
import Derived.Lib.Overlaps
import Derived.Laws.Externs
import Derived.Lib.SliceRun
import Derived.Test.YtocekhckmpkbmaaGreatU02
namespace Go.Proofs.YtocekhckmpkbmaaGreat
open Go.RowKit
def I64 (x : Int) : Prop := -9223372036854775808 ≤ x ∧ x < 9223372036854775808
structure KeyD where
 t : Int
 id : Int
def KeyD.cells (k : KeyD) : List Value := [.int .i64 k.t, .int .u16 k.id]
structure RowD where
 key : KeyD
 val : Int
 note : ByteArray
def RowD.cells (r : RowD) : List Value := [.int .i64 r.key.t, .int .u16 r.key.id, .int .i64 r.val, .string r.note]
structure KeyOk (k : KeyD) : Prop where
 t : I64 k.t
 id : 0 ≤ k.id ∧ k.id < 65536
structure RowOk (r : RowD) : Prop where
 key : KeyOk r.key
 val : I64 r.val
 note : r.note.size ≤ maxLen
theorem RowD.one (r : RowD) : ∀ v ∈ r.cells, v.oneCell' = true := by
 intro v hv; simp only [RowD.cells, List.mem_cons, List.not_mem_nil, or_false] at hv; rcases hv with rfl | rfl | rfl | rfl <;> rfl
theorem KeyD.one (k : KeyD) : ∀ v ∈ k.cells, v.oneCell' = true := by
 intro v hv; simp only [KeyD.cells, List.mem_cons, List.not_mem_nil, or_false] at hv; rcases hv with rfl | rfl <;> rfl
/-- the cells of a list of rows, one behind the other -/
def cellsR : List RowD → List Value
 | [] => []
 | r :: l => r.cells ++ cellsR l
theorem cellsR_get : ∀ (l : List RowD) (i : Nat) (r : RowD), l[i]? = some r → ∀ j x, r.cells[j]? = some x → (cellsR l)[i * 4 + j]? = some x
 | [], i, r, h, _, _, _ => by simp at h
 | s :: l, 0, r, h, j, x, hx => by simp at h; subst h; have hj : j < s.cells.length := (List.getElem?_eq_some_iff.1 hx).1; simp only [cellsR, Nat.zero_mul, Nat.zero_add]; rw [List.getElem?_append_left hj]; exact hx
 | s :: l, i + 1, r, h, j, x, hx => by
   simp at h; have := cellsR_get l i r h j x hx; simp only [cellsR]; rw [List.getElem?_append_right (by simp [RowD.cells]; omega)]; have e : (i + 1) * 4 + j - s.cells.length = i * 4 + j := by simp [RowD.cells]; omega
   rw [e]; exact this
theorem cell_in {w : World} {a : Addr} {v : Value} (h : w.cell? a = some v) : a.block < w.heap.size := by
 rcases Nat.lt_or_ge a.block w.heap.size with h1 | h1
 · exact h1
 · have hn : w.heap[a.block]? = none := Array.getElem?_eq_none h1; unfold World.cell? at h; simp [hn] at h
theorem cell_keeps {B : Nat} {w w' : World} (hb : Below B w w') (hB : w.heap.size ≤ B) {a : Addr} {v : Value} (h : w.cell? a = some v) : w'.cell? a = some v := by
 rw [World.cell?_of_block (w := w) (hb.block _ (Nat.lt_of_lt_of_le (cell_in h) hB))]; exact h
theorem below_drewN (w : World) (k : Nat) : Below w.heap.size w (w.drewN k) := ⟨rfl, rfl, rfl, Nat.le_refl _, fun _ _ => rfl⟩
theorem below_drew (w : World) : Below w.heap.size w w.drew := ⟨rfl, rfl, rfl, Nat.le_refl _, fun _ _ => rfl⟩
/-- a slice that reads as a list of rows -/
structure RowsOn (w : World) (q : Option Addr) (n c : Nat) (l : List RowD) : Prop where
 len : l.length = n
 le : n ≤ c
 cap : c ≤ maxLen
 nil : q = none → c = 0
 get : ∀ i r, l[i]? = some r → ∃ a, q = some a ∧ ∀ j x, r.cells[j]? = some x → w.cell? ((a.add (i * 4)).add j) = some x
 ok : ∀ r ∈ l, RowOk r
theorem RowsOn.none_ (w : World) : RowsOn w none 0 0 [] := ⟨rfl, Nat.le_refl _, Nat.zero_le _, fun _ => rfl, fun i r h => by simp at h, fun r h => by cases h⟩
theorem RowsOn.below {B : Nat} {w w' : World} {q : Option Addr} {n c : Nat} {l : List RowD} (h : RowsOn w q n c l) (hb : Below B w w') (hB : w.heap.size ≤ B) : RowsOn w' q n c l :=
 ⟨h.len, h.le, h.cap, h.nil, fun i r hi => by
  obtain ⟨a, rfl, hc⟩ := h.get i r hi
  exact ⟨a, rfl, fun j x hj => cell_keeps hb hB (hc j x hj)⟩, h.ok⟩
theorem RowsOn.at {w : World} {q : Option Addr} {n c : Nat} {l : List RowD} (h : RowsOn w q n c l) {i : Nat} (hi : i < n) :
 ∃ a r, q = some a ∧ l[i]? = some r ∧ RowOk r ∧ ∀ j x, r.cells[j]? = some x → w.cell? ((a.add (i * 4)).add j) = some x := by
 have hl := h.len; have hx : l[i]? = some (l[i]'(by omega)) := List.getElem?_eq_getElem (by omega); obtain ⟨a, ha, hc⟩ := h.get i _ hx; exact ⟨a, _, ha, hx, h.ok _ (List.mem_of_getElem? hx), hc⟩
/-- a slice that reads as a list of keys -/
structure KeysOn (w : World) (q : Option Addr) (n c : Nat) (l : List KeyD) : Prop where
 len : l.length = n
 le : n ≤ c
 cap : c ≤ maxLen
 nil : q = none → c = 0
 get : ∀ i r, l[i]? = some r → ∃ a, q = some a ∧ ∀ j x, r.cells[j]? = some x → w.cell? ((a.add (i * 2)).add j) = some x
 ok : ∀ r ∈ l, KeyOk r
theorem KeysOn.below {B : Nat} {w w' : World} {q : Option Addr} {n c : Nat} {l : List KeyD} (h : KeysOn w q n c l) (hb : Below B w w') (hB : w.heap.size ≤ B) : KeysOn w' q n c l :=
 ⟨h.len, h.le, h.cap, h.nil, fun i r hi => by
  obtain ⟨a, rfl, hc⟩ := h.get i r hi
  exact ⟨a, rfl, fun j x hj => cell_keeps hb hB (hc j x hj)⟩, h.ok⟩
theorem KeysOn.at {w : World} {q : Option Addr} {n c : Nat} {l : List KeyD} (h : KeysOn w q n c l) {i : Nat} (hi : i < n) :
 ∃ a r, q = some a ∧ l[i]? = some r ∧ KeyOk r ∧ ∀ j x, r.cells[j]? = some x → w.cell? ((a.add (i * 2)).add j) = some x := by
 have hl := h.len; have hx : l[i]? = some (l[i]'(by omega)) := List.getElem?_eq_getElem (by omega); obtain ⟨a, ha, hc⟩ := h.get i _ hx; exact ⟨a, _, ha, hx, h.ok _ (List.mem_of_getElem? hx), hc⟩
/-- the bounds of a table -/
structure BdD where
 lo : Int
 hi : Int
def BdD.cells (b : BdD) : List Value := [.int .i64 b.lo, .int .i64 b.hi]
/-- a slice that reads as a list of bounds -/
structure SchOn (w : World) (q : Option Addr) (n c : Nat) (l : List BdD) : Prop where
 len : l.length = n
 le : n ≤ c
 cap : c ≤ maxLen
 get : ∀ i r, l[i]? = some r → ∃ a, q = some a ∧ ∀ j x, r.cells[j]? = some x → w.cell? ((a.add (i * 2)).add j) = some x
 ok : ∀ r ∈ l, I64 r.lo ∧ I64 r.hi
theorem SchOn.none_ (w : World) : SchOn w none 0 0 [] := ⟨rfl, Nat.le_refl _, Nat.zero_le _, fun i r h => by simp at h, fun r h => by cases h⟩
theorem SchOn.below {B : Nat} {w w' : World} {q : Option Addr} {n c : Nat} {l : List BdD} (h : SchOn w q n c l) (hb : Below B w w') (hB : w.heap.size ≤ B) : SchOn w' q n c l :=
 ⟨h.len, h.le, h.cap, fun i r hi => by
  obtain ⟨a, rfl, hc⟩ := h.get i r hi
  exact ⟨a, rfl, fun j x hj => cell_keeps hb hB (hc j x hj)⟩, h.ok⟩
theorem SchOn.at {w : World} {q : Option Addr} {n c : Nat} {l : List BdD} (h : SchOn w q n c l) {i : Nat} (hi : i < n) :
 ∃ a r, q = some a ∧ l[i]? = some r ∧ (I64 r.lo ∧ I64 r.hi) ∧ ∀ j x, r.cells[j]? = some x → w.cell? ((a.add (i * 2)).add j) = some x := by
 have hl := h.len; have hx : l[i]? = some (l[i]'(by omega)) := List.getElem?_eq_getElem (by omega); obtain ⟨a, ha, hc⟩ := h.get i _ hx; exact ⟨a, _, ha, hx, h.ok _ (List.mem_of_getElem? hx), hc⟩
/-- The slice v holds just these rows, in a block of its own from block base on. -/
def OwnR (T : TypeId) (w : World) (base : Nat) (v : Value) (l : List RowD) : Prop := w.ownsRow base T 4 v l.length (cellsR l)
theorem OwnR.nil (T : TypeId) (w : World) (base : Nat) : OwnR T w base (.slice none 0 0) [] := World.ownsRow_nil w base T 4
theorem OwnR.shape {T : TypeId} {w : World} {base : Nat} {v : Value} {l : List RowD} (h : OwnR T w base v l) : ∃ q c, v = .slice q l.length c := by
 obtain ⟨_, ⟨he, h0⟩ | ⟨g, cap, cur, he, _⟩⟩ := h
 · exact ⟨none, 0, by rw [he, h0]⟩
 · exact ⟨_, _, he⟩
theorem OwnR.len {T : TypeId} {w : World} {base : Nat} {q : Option Addr} {n c : Nat} {l : List RowD} (h : OwnR T w base (.slice q n c) l) : n = l.length := by
 obtain ⟨q', c', e⟩ := h.shape
 injection e
theorem OwnR.far {T : TypeId} {w : World} {base : Nat} {q : Option Addr} {n c : Nat} {l : List RowD} (h : OwnR T w base (.slice q n c) l) : ∀ a, q = some a → base ≤ a.block ∧ a.block < w.heap.size := by
 intro a ha; obtain ⟨_, ⟨he, _⟩ | ⟨g, cap, cur, he, hg, hh, _⟩⟩ := h
 · simp only [Value.slice.injEq] at he; obtain ⟨rfl, _⟩ := he; cases ha
 · simp only [Value.slice.injEq] at he; obtain ⟨rfl, _⟩ := he; cases ha; exact ⟨hg, (Array.getElem?_eq_some_iff.1 hh).1⟩
theorem OwnR.kept {T : TypeId} {w w' : World} {base : Nat} {q : Option Addr} {n c : Nat} {l : List RowD} (h : OwnR T w base (.slice q n c) l) (hb : ∀ a, q = some a → w'.heap[a.block]? = w.heap[a.block]?) : OwnR T w' base (.slice q n c) l := by
 obtain ⟨hlen, ⟨he, h0⟩ | ⟨g, cap, cur, he, hg, hh, r⟩⟩ := h
 · exact ⟨hlen, .inl ⟨he, h0⟩⟩
 · simp only [Value.slice.injEq] at he; obtain ⟨rfl, e2, rfl⟩ := he; exact ⟨hlen, .inr ⟨g, c, cur, by rw [e2], hg, by rw [hb _ rfl]; exact hh, r⟩⟩
theorem OwnR.below {T : TypeId} {w w' : World} {base : Nat} {q : Option Addr} {n c : Nat} {l : List RowD} (h : OwnR T w base (.slice q n c) l) (hb : Below w.heap.size w w') : OwnR T w' base (.slice q n c) l :=
 h.kept fun a ha => hb.block _ (h.far a ha).2
theorem OwnR.mono {T : TypeId} {w : World} {b b' : Nat} {v : Value} {l : List RowD} (h : OwnR T w b v l) (hb : b' ≤ b) : OwnR T w b' v l := by
 obtain ⟨hlen, hr | ⟨g, cap, cur, he, hg, r⟩⟩ := h
 · exact ⟨hlen, .inl hr⟩
 · exact ⟨hlen, .inr ⟨g, cap, cur, he, Nat.le_trans hb hg, r⟩⟩
/-- what is owned reads as a list of rows -/
theorem OwnR.reads {T : TypeId} {w : World} {base : Nat} {q : Option Addr} {n c : Nat} {l : List RowD} (h : OwnR T w base (.slice q n c) l) (hok : ∀ r ∈ l, RowOk r) : RowsOn w q n c l := by
 have hl := h.len; have hc := fun g hg => World.ownsRow.cells (h := h) (g := g) hg
 obtain ⟨hlen, ⟨he, h0⟩ | ⟨g, cap, cur, he, hg, hh, hle, hm, r⟩⟩ := h
 · simp only [Value.slice.injEq] at he; obtain ⟨rfl, rfl, rfl⟩ := he; exact ⟨hl.symm, Nat.le_refl _, Nat.zero_le _, fun _ => rfl, fun i r hi => by rw [List.eq_nil_of_length_eq_zero hl.symm] at hi; simp at hi, hok⟩
 · simp only [Value.slice.injEq] at he; obtain ⟨rfl, e2, rfl⟩ := he; refine ⟨hl.symm, by omega, hm, (fun e => by cases e), fun i r hi => ⟨_, rfl, fun j x hj => ?_⟩, hok⟩; rw [Go.Deep.add_add]; exact hc g rfl _ _ (cellsR_get l i r hi j x hj)
theorem splice_all (cs vs : List Value) (h : cs.length = vs.length) : splice cs 0 vs = vs := by
 unfold splice; simp [← h]
end Go.Proofs.YtocekhckmpkbmaaGreat
namespace Go.Proofs.YtocekhckmpkbmaaGreat
open Go.RowKit
def cmpI (a b : Int) : Int := if a < b then -1 else if b < a then 1 else 0
def orI (x y : Int) : Int := if x = 0 then y else x
def cmpK (a b : KeyD) : Int := orI (cmpI a.t b.t) (cmpI a.id b.id)
def eqK (a b : KeyD) : Bool := a.t == b.t && a.id == b.id
theorem cmpI_cases (a b : Int) : (a < b ∧ cmpI a b = -1) ∨ (b < a ∧ cmpI a b = 1) ∨ (a = b ∧ cmpI a b = 0) := by
 unfold cmpI
 by_cases h1 : a < b
 · exact .inl ⟨h1, if_pos h1⟩
 · by_cases h2 : b < a
   · exact .inr (.inl ⟨h2, by rw [if_neg h1, if_pos h2]⟩)
   · exact .inr (.inr ⟨by omega, by rw [if_neg h1, if_neg h2]⟩)
set_option maxRecDepth 100000 in
theorem nan_int (x : Int) (w : World) : Calls Tryz.prog 153 #[.int .i64 x] w (fun e w' => e = .returned (.bool false) ∧ w' = w) := by
 go_enter Tryz.func153, Tryz.ntmps153
 go_wp2; go_ret; exact ⟨by simp, rfl⟩
set_option maxRecDepth 100000 in
theorem nan_u16 (x : Int) (w : World) : Calls Tryz.prog 154 #[.int .u16 x] w (fun e w' => e = .returned (.bool false) ∧ w' = w) := by
 go_enter Tryz.func154, Tryz.ntmps154
 go_wp2; go_ret; exact ⟨by simp, rfl⟩
theorem ret_i {a b : Int} {k : IntKind} (h : a = b) : Ending.returned (.int k a) = .returned (.int k b) := by rw [h]
set_option maxRecDepth 100000 in
theorem cmp_int (x y : Int) (w : World) : Calls Tryz.prog 142 #[.int .i64 x, .int .i64 y] w (fun e w' => e = .returned (.int .i64 (cmpI x y)) ∧ w' = w) := by
 rcases cmpI_cases x y with ⟨h, e⟩ | ⟨h, e⟩ | ⟨h, e⟩
 all_goals
  rw [e]; clear e
 · go_enter Tryz.func142, Tryz.ntmps142
   go_wp2_with (go_at_call 153; refine (nan_int _ _).mono ?_; rintro e w' ⟨rfl, hw⟩; obtain rfl := hw.symm)
   go_ret; exact ⟨rfl, rfl⟩
 · have h2 : ¬ x < y := by omega
   go_enter Tryz.func142, Tryz.ntmps142
   go_wp2_with (go_at_call 153; refine (nan_int _ _).mono ?_; rintro e w' ⟨rfl, hw⟩; obtain rfl := hw.symm)
   go_ret; exact ⟨rfl, rfl⟩
 · subst h
   go_enter Tryz.func142, Tryz.ntmps142
   go_wp2_with (go_at_call 153; refine (nan_int _ _).mono ?_; rintro e w' ⟨rfl, hw⟩; obtain rfl := hw.symm)
   go_ret; exact ⟨rfl, rfl⟩
set_option maxRecDepth 100000 in
theorem cmp_u16 (x y : Int) (w : World) : Calls Tryz.prog 143 #[.int .u16 x, .int .u16 y] w (fun e w' => e = .returned (.int .i64 (cmpI x y)) ∧ w' = w) := by
 rcases cmpI_cases x y with ⟨h, e⟩ | ⟨h, e⟩ | ⟨h, e⟩
 all_goals
  rw [e]; clear e
 · go_enter Tryz.func143, Tryz.ntmps143
   go_wp2_with (go_at_call 154; refine (nan_u16 _ _).mono ?_; rintro e w' ⟨rfl, hw⟩; obtain rfl := hw.symm)
   go_ret; exact ⟨rfl, rfl⟩
 · have h2 : ¬ x < y := by omega
   go_enter Tryz.func143, Tryz.ntmps143
   go_wp2_with (go_at_call 154; refine (nan_u16 _ _).mono ?_; rintro e w' ⟨rfl, hw⟩; obtain rfl := hw.symm)
   go_ret; exact ⟨rfl, rfl⟩
 · subst h
   go_enter Tryz.func143, Tryz.ntmps143
   go_wp2_with (go_at_call 154; refine (nan_u16 _ _).mono ?_; rintro e w' ⟨rfl, hw⟩; obtain rfl := hw.symm)
   go_ret; exact ⟨rfl, rfl⟩
set_option maxRecDepth 100000 in
set_option maxHeartbeats 1000000 in
theorem or2 (x y : Int) (g : Nat) (w : World) (h0 : w.cell? ⟨g, 0, none⟩ = some (.int .i64 x)) (h1 : w.cell? ⟨g, 1, none⟩ = some (.int .i64 y)) :
 Calls Tryz.prog 141 #[.slice (some ⟨g, 0, none⟩) 2 2] w (fun e w' => e = .returned (.int .i64 (orI x y)) ∧ w' = w) := by
 go_enter Tryz.func141, Tryz.ntmps141
 go_wp2
 go_loop [8] (fun v8 => ∃ k : Nat, k ≤ 2 ∧ v8 = .int .i64 k ∧ (0 < k → x = 0) ∧ (1 < k → y = 0)) (fun v8 => 2 - (intOf v8).toNat)
 case atStart => exact ⟨0, by omega, rfl, (fun h => by omega), (fun h => by omega)⟩
 case round =>
  obtain ⟨k, hk, rfl, hx, hy⟩ := hrel
  match k, hk with
  | 0, _ =>
    by_cases hz : x = 0
    · subst hz; go_wp2
      go_round
      case rel => exact ⟨1, by omega, by go_num, by simp, by simp⟩
      case measure => simp [intOf]
    · go_wp2
      go_ret; exact ⟨ret_i (by simp [orI, *]), rfl⟩
  | 1, _ =>
    have hx0 := hx (by omega); subst hx0
    by_cases hz : y = 0
    · subst hz; go_wp2
      go_round
      case rel => exact ⟨2, by omega, by go_num, by simp, by simp⟩
      case measure => simp [intOf]
    · go_wp2
      go_ret; exact ⟨ret_i (by simp [orI, *]), rfl⟩
  | 2, _ => have hx0 := hx (by omega); have hy0 := hy (by omega); subst hx0; subst hy0; go_wp2; go_ret; exact ⟨ret_i (by simp [orI]), rfl⟩
set_option maxRecDepth 100000 in
set_option maxHeartbeats 1000000 in
theorem compare_any (a b : KeyD) (w : World) : Calls Tryz.prog 129 #[.agg #[.int .i64 a.t, .int .u16 a.id], .agg #[.int .i64 b.t, .int .u16 b.id]] w (fun e w' => e = .returned (.int .i64 (cmpK a b)) ∧ Below w.heap.size w w') := by
 obtain ⟨at_, ai⟩ := a; obtain ⟨bt, bi⟩ := b; show Calls _ _ _ _ (fun e w' => e = .returned (.int .i64 (orI (cmpI at_ bt) (cmpI ai bi))) ∧ Below w.heap.size w w')
 go_enter Tryz.func129, Tryz.ntmps129
 go_wp2
 go_still_tail 10, (by kernel_rfl)
 change wpStill _ _ (World.drew _) (fun a' => wpList _ _ _ _ a' (World.drew _)) _ _
 repeat still_step
 still_call (cmp_int at_ bt _)
 repeat still_step
 still_call (cmp_u16 ai bi _)
 repeat still_step
 refine wpStill_nil ?_
 go_wp2_with fail
 refine (or2 (cmpI at_ bt) (cmpI ai bi) (w.heap.size + 1 + 1) _ (by go_simp) (by go_simp)).mono ?_; rintro e w' ⟨rfl, hw⟩; obtain rfl := hw.symm; go_wp2; go_ret; refine ⟨rfl, ?_⟩
 go_grown
end Go.Proofs.YtocekhckmpkbmaaGreat
namespace Go.Proofs.YtocekhckmpkbmaaGreat
open Go.RowKit
theorem sizeRow (t id v : Int) (s : ByteArray) : (Tryz.prog.info? 68).map (·.size) = some [Value.int .i64 t, Value.int .u16 id, Value.int .i64 v, Value.string s].length := by kernel_rfl
theorem sizeKey (t id : Int) : (Tryz.prog.info? 66).map (·.size) = some [Value.int .i64 t, Value.int .u16 id].length := by kernel_rfl
end Go.Proofs.YtocekhckmpkbmaaGreat
namespace Go.Proofs.YtocekhckmpkbmaaGreat
open Go.RowKit
/-- the block g begins with these cells -/
def Boxed (w : World) (g : Nat) (vs : List Value) : Prop := ∀ j x, vs[j]? = some x → w.cell? ((⟨g, 0, none⟩ : Addr).add j) = some x
theorem Boxed.all {w : World} {g : Nat} {vs : List Value} (h : Boxed w g vs) : ∀ j x, vs[j]? = some x → w.cell? ((⟨g, 0, none⟩ : Addr).add j) = some x := h
theorem Boxed.below {B : Nat} {w w' : World} {g : Nat} {vs : List Value} (h : Boxed w g vs) (hb : Below B w w') (hB : w.heap.size ≤ B) : Boxed w' g vs := fun j x hj => cell_keeps hb hB (h j x hj)
theorem Boxed.made {T : TypeId} (w : World) (vs : List Value) : Boxed (w.alloc (.cells vs.toArray T)) w.heap.size vs := (RowV.made w vs).part (pre := []) (rest := []) (by simp) rfl
theorem Boxed.cell {w : World} {g : Nat} {vs : List Value} (h : Boxed w g vs) (j : Nat) {x : Value} (hx : vs[j]? = some x) : w.cell? ⟨g, j, none⟩ = some x := by
 have := h j x hx; have hadd : (⟨g, 0, none⟩ : Addr).add j = ⟨g, j, none⟩ := by unfold Addr.add; split <;> simp_all
 rwa [hadd] at this
theorem two_boxes {w W : World} {T1 T2 : TypeId} {xs ys : List Value} (h : (w.alloc (.cells xs.toArray T1)).alloc (.cells ys.toArray T2) = W) : Below w.heap.size w W ∧ Boxed W w.heap.size xs ∧ Boxed W (w.heap.size + 1) ys ∧ W.heap.size = w.heap.size + 2 := by
 subst h; refine ⟨((Below.refl _ _).alloc (Nat.le_refl _) _).alloc (by simp) _, (Boxed.made w _).below ((Below.refl _ _).alloc (Nat.le_refl _) _) (by simp), ?_, by simp⟩; have := Boxed.made (T := T2) (w.alloc (.cells xs.toArray T1)) ys; simpa using this
theorem one_box {w W : World} {T1 : TypeId} {xs : List Value} (h : w.alloc (.cells xs.toArray T1) = W) : Below w.heap.size w W ∧ Boxed W w.heap.size xs ∧ W.heap.size = w.heap.size + 1 := by
 subst h; exact ⟨(Below.refl _ _).alloc (Nat.le_refl _) _, Boxed.made w _, by simp⟩
end Go.Proofs.YtocekhckmpkbmaaGreat
namespace Go.Proofs.YtocekhckmpkbmaaGreat
open Go.RowKit
end Go.Proofs.YtocekhckmpkbmaaGreat
namespace Go.Proofs.YtocekhckmpkbmaaGreat
open Go.RowKit
end Go.Proofs.YtocekhckmpkbmaaGreat
namespace Go.Proofs.YtocekhckmpkbmaaGreat
open Go.RowKit
theorem add0 (a : Addr) : a.add 0 = a := by unfold Addr.add; simp
end Go.Proofs.YtocekhckmpkbmaaGreat
namespace Go.Proofs.YtocekhckmpkbmaaGreat
open Go.RowKit
theorem infoRow : (Tryz.prog.info? 68).map (fun i => (i.zero, i.size, i.bytes)) = some (some (.agg #[.int .i64 0, .int .u16 0, .int .i64 0, .string ⟨#[]⟩]), 4, 40) := by kernel_rfl
section
variable {P : Program} {w : World}
end
end Go.Proofs.YtocekhckmpkbmaaGreat
namespace Go.Proofs.YtocekhckmpkbmaaGreat
open Go.RowKit
theorem grown_belowN {w w' : World} {q : Option Nat} {B : Nat} (h : w.grownBy w' q) (hB : B ≤ w.heap.size) (hq : ∀ k, q = some k → B ≤ k) : Below B w w' :=
 ⟨h.os, h.tape, h.output, h.size, fun k hk => h.block k (by omega) (fun e => by have := hq k e.symm; omega)⟩
end Go.Proofs.YtocekhckmpkbmaaGreat
namespace Go.Proofs.YtocekhckmpkbmaaGreat
open Go.RowKit
theorem below_step {W u v : World} (h2 : Below u.heap.size u v) (h : Below W.heap.size W u) : Below W.heap.size W v := h.trans (h2.mono h.size)
end Go.Proofs.YtocekhckmpkbmaaGreat
namespace Go.Proofs.YtocekhckmpkbmaaGreat
open Go.RowKit
def eqR (a b : RowD) : Bool := a.key.t == b.key.t && (a.key.id == b.key.id && (a.val == b.val && a.note.toList == b.note.toList))
theorem bytes_inj {a b : ByteArray} (h : a.toList = b.toList) : a = b := by
 rw [ByteArray.toList_eq, ByteArray.toList_eq] at h; cases a; cases b; simp at h; rw [h]
theorem eqR_iff {a b : RowD} : eqR a b = true ↔ a = b := by
 unfold eqR; constructor
 · intro h; simp only [Bool.and_eq_true, beq_iff_eq] at h; obtain ⟨h1, h2, h3, h4⟩ := h; obtain ⟨⟨at_, ai⟩, av, an⟩ := a; obtain ⟨⟨bt, bi⟩, bv, bn⟩ := b; simp only at h1 h2 h3 h4; subst h1 h2 h3; rw [bytes_inj h4]
 · rintro rfl; simp
def sameL : List RowD → List RowD → Bool
 | [], [] => true
 | a :: l, b :: m => eqR a b && sameL l m
 | _, _ => false
theorem sameL_iff : ∀ {l m : List RowD}, sameL l m = true ↔ l = m
 | [], [] => by simp [sameL]
 | [], b :: m => by simp [sameL]
 | a :: l, [] => by simp [sameL]
 | a :: l, b :: m => by simp only [sameL, Bool.and_eq_true, eqR_iff, sameL_iff, List.cons.injEq]
theorem sameL_of {l m : List RowD} {n : Nat} (h1 : l.length = n) (h2 : m.length = n) (h : ∀ i a b, i < n → l[i]? = some a → m[i]? = some b → eqR a b = true) : sameL l m = true := by
 rw [sameL_iff]; apply List.ext_getElem?; intro i
 by_cases hi : i < n
 · have e1 : l[i]? = some (l[i]'(by omega)) := List.getElem?_eq_getElem (by omega); have e2 : m[i]? = some (m[i]'(by omega)) := List.getElem?_eq_getElem (by omega); rw [e1, e2, eqR_iff.1 (h i _ _ hi e1 e2)]
 · rw [List.getElem?_eq_none (by omega), List.getElem?_eq_none (by omega)]
theorem sameL_ne {l m : List RowD} (h : l.length ≠ m.length) : sameL l m = false := by
 cases hs : sameL l m with
 | false => rfl
 | true => exact absurd (congrArg List.length (sameL_iff.1 hs)) h
theorem sameL_at {l m : List RowD} {i : Nat} {a b : RowD} (h1 : l[i]? = some a) (h2 : m[i]? = some b) (h : eqR a b = false) : sameL l m = false := by
 cases hs : sameL l m with
 | false => rfl
 | true => rw [sameL_iff.1 hs, h2] at h1; cases h1; rw [eqR_iff.2 rfl] at h; cases h
theorem equal_key (w : World) (a b c d : Int) : (Op.equalIn 9999 66 (.agg #[.int .i64 a, .int .u16 b]) (.agg #[.int .i64 c, .int .u16 d])).run Tryz.prog w = .ok (a == c && b == d) w := by
 have hS : Tryz.prog.underlying 66 = some (.struct (Tryz.prog.fieldsOf 66)) := by kernel_rfl
 have hp : Tryz.prog.stoodInHeld 66 = false := by kernel_rfl
 have u3 := Tryz.underlying3; have u4 := Tryz.underlying64; have a3 := Tryz.isAgg3; have a4 := Tryz.isAgg64; have z3 := Tryz.sizeOf3; have z4 := Tryz.sizeOf64; rw [show (9999 : Nat) = 9998 + 1 from rfl, run_equalIn_agg w 9998 66 _ _ hS hp]; simp only [Program.fieldsOf, Tryz.underlying66]; clear hS hp
 go_simp
 by_cases h1 : a = c <;> by_cases h2 : b = d <;> simp [h1, h2]
theorem neq_row (w : World) (a b c : Int) (s : ByteArray) (d e f : Int) (u : ByteArray) : (binOp .neq 68 (.agg #[.int .i64 a, .int .u16 b, .int .i64 c, .string s]) (.agg #[.int .i64 d, .int .u16 e, .int .i64 f, .string u])).run Tryz.prog w = .ok (.bool (!eqR ⟨⟨a, b⟩, c, s⟩ ⟨⟨d, e⟩, f, u⟩)) w := by
 have hS : Tryz.prog.underlying 68 = some (.struct (Tryz.prog.fieldsOf 68)) := by kernel_rfl
 have hp : Tryz.prog.stoodInHeld 68 = false := by kernel_rfl
 have u3 := Tryz.underlying2; have u4 := Tryz.underlying9; have a3 := Tryz.isAgg2; have a4 := Tryz.isAgg9; have a5 := Tryz.isAgg66; have z3 := Tryz.sizeOf2; have z4 := Tryz.sizeOf9; have z5 := Tryz.sizeOf66; have hk := fun w => equal_key w a b d e
 rw [run_neq_struct, show (10000 : Nat) = 9999 + 1 from rfl, run_equalIn_agg w 9999 68 _ _ hS hp]; simp only [Program.fieldsOf, Tryz.underlying68]; clear hS hp; unfold eqR; have hv : ∀ w : World, (Op.equalIn 9999 2 (.int .i64 c) (.int .i64 f)).run Tryz.prog w = .ok (c == f) w := fun w => run_equalIn_int w 9998 2 .i64 .i64 c f u3
 have hs : ∀ w : World, (Op.equalIn 9999 9 (.string s) (.string u)).run Tryz.prog w = .ok (s.toList == u.toList) w := fun w => run_equalIn_string w 9998 9 s u u4
 have x1 : (#[Value.int .i64 a, .int .u16 b, .int .i64 c, .string s].extract 0 2) = #[Value.int .i64 a, .int .u16 b] := rfl; have x2 : (#[Value.int .i64 d, .int .u16 e, .int .i64 f, .string u].extract 0 2) = #[Value.int .i64 d, .int .u16 e] := rfl; have t1 : (#[Value.int .i64 a, .int .u16 b, .int .i64 c, .string s])[2]? = some (.int .i64 c) := rfl; have t2 : (#[Value.int .i64 d, .int .u16 e, .int .i64 f, .string u])[2]? = some (.int .i64 f) := rfl; have t3 : (#[Value.int .i64 a, .int .u16 b, .int .i64 c, .string s])[3]? = some (.string s) := rfl; have t4 : (#[Value.int .i64 d, .int .u16 e, .int .i64 f, .string u])[3]? = some (.string u) := rfl; have n1 : ("Key" : String) ≠ "_" := by decide
 have n2 : ("Val" : String) ≠ "_" := by decide
 have n3 : ("Note" : String) ≠ "_" := by decide
 simp only [Op.eqFields, part, a5, z5, a3, a4, hk, hv, hs, x1, x2, t1, t2, t3, t4, if_pos n1, if_pos n2, if_pos n3, Sem.run_bind, Sem.run_ite, Sem.run_pure, Result.andThen_ok, Nat.zero_add, Bool.false_eq_true, if_false, if_true]; generalize (s.toList == u.toList) = g
 by_cases h1 : a = d <;> by_cases h2 : b = e <;> by_cases h3 : c = f <;> simp [h1, h2, h3]
 cases g <;> rfl
set_option maxRecDepth 100000 in
set_option maxHeartbeats 2000000 in
theorem equal_any (q1 : Option Addr) (n1 c1 : Nat) (l : List RowD) (q2 : Option Addr) (n2 c2 : Nat) (m : List RowD) (w : World) (h1 : RowsOn w q1 n1 c1 l) (h2 : RowsOn w q2 n2 c2 m) :
 Calls Tryz.prog 83 #[.slice q1 n1 c1, .slice q2 n2 c2] w (fun e w' => e = .returned (.bool (sameL l m)) ∧ Below w.heap.size w w') := by
 have k1 := Nat.le_trans h1.le h1.cap; have k2 := Nat.le_trans h2.le h2.cap; unfold maxLen at k1 k2; have g1 := lh h1; have g2 := lh h2; clear h1 h2
 by_cases hn : n1 = n2
 · subst hn; have hT : Hid ((∀ i a b, i < n1 → l[i]? = some a → m[i]? = some b → eqR a b = true) → sameL l m = true) := fun h => sameL_of g1.out.len g2.out.len h
   have hF : Hid (∀ i a b, l[i]? = some a → m[i]? = some b → eqR a b = false → sameL l m = false) := fun i a b ha hb h => sameL_at ha hb h
   obtain ⟨E, hE⟩ : ∃ E, sameL l m = E := ⟨_, rfl⟩; rw [hE] at hT hF ⊢; clear hE
   go_enter Tryz.func83, Tryz.ntmps83
   go_wp2
   go_loopw [13] (fun v13 wr => ∃ k : Nat, k ≤ n1 ∧ v13 = .int .i64 k ∧ Hid (Below w.heap.size w wr) ∧ Hid (∀ i a b, i < k → l[i]? = some a → m[i]? = some b → eqR a b = true)) (fun v13 _ => n1 - (intOf v13).toNat)
   case atStart => exact ⟨0, Nat.zero_le _, rfl, (show Below _ _ _ from Below.refl _ _), fun i a b hi => by omega⟩
   case round =>
    obtain ⟨k, hk, rfl, hb, hp⟩ := hrel
    by_cases hlt : k < n1
    · obtain ⟨A, ⟨⟨at_, ai⟩, av, as_⟩, hqA, hx, hokA, hcA⟩ := (g1.out.below hb.out (Nat.le_refl _)).at hlt; obtain ⟨B, ⟨⟨bt, bi⟩, bv, bs⟩, hqB, hy, hokB, hcB⟩ := (g2.out.below hb.out (Nat.le_refl _)).at hlt; subst hqA; subst hqB; have p0 : wr.cell? (A.add (k * 4)) = some (.int .i64 at_) := by have h := hcA 0 _ rfl; rwa [add0] at h
      have p1 : wr.cell? ⟨(A.add (k * 4)).block, (A.add (k * 4)).off + 1, none⟩ = some (.int .u16 ai) := hcA 1 _ rfl; have p2 : wr.cell? ⟨(A.add (k * 4)).block, (A.add (k * 4)).off + 2, none⟩ = some (.int .i64 av) := hcA 2 _ rfl; have p3 : wr.cell? ⟨(A.add (k * 4)).block, (A.add (k * 4)).off + 3, none⟩ = some (.string as_) := hcA 3 _ rfl; have q0 : wr.cell? (B.add (k * 4)) = some (.int .i64 bt) := by have h := hcB 0 _ rfl; rwa [add0] at h
      have q1 : wr.cell? ⟨(B.add (k * 4)).block, (B.add (k * 4)).off + 1, none⟩ = some (.int .u16 bi) := hcB 1 _ rfl; have q2 : wr.cell? ⟨(B.add (k * 4)).block, (B.add (k * 4)).off + 2, none⟩ = some (.int .i64 bv) := hcB 2 _ rfl; have q3 : wr.cell? ⟨(B.add (k * 4)).block, (B.add (k * 4)).off + 3, none⟩ = some (.string bs) := hcB 3 _ rfl; have hx' := lh hx; have hy' := lh hy; have i0 : (0 : Int) ≤ k := by omega
      have i1 : (k : Int) < n1 := by omega
      clear hx hy hokA hokB hcA hcB; have hne := fun u => neq_row u at_ ai av as_ bt bi bv bs
      obtain ⟨b, hbv⟩ : ∃ b, eqR ⟨⟨at_, ai⟩, av, as_⟩ ⟨⟨bt, bi⟩, bv, bs⟩ = b := ⟨_, rfl⟩; rw [hbv] at hne; have hbv' := lh hbv; clear hbv; cases b with
      | true =>
        go_wp2
        go_quiet (fail)
        clear hne p0 p1 p2 p3 q0 q1 q2 q3; go_wp2
        go_roundw
        case rel =>
         refine ⟨k + 1, by omega, by go_num, (show Below _ _ _ from hb.out.trans ((below_drewN _ _).mono hb.out.size)), fun i a b hi ha hb2 => ?_⟩; rcases Nat.lt_or_ge i k with h | h
         · exact hp.out i a b h ha hb2
         · obtain rfl : i = k := by omega
           rw [hx'.out] at ha; rw [hy'.out] at hb2; cases ha; cases hb2; exact hbv'.out
        case measure => simp [intOf]; omega
      | false =>
        go_wp2
        go_quiet (fail)
        clear hne p0 p1 p2 p3 q0 q1 q2 q3; go_wp2; go_ret; exact ⟨by rw [hF.out k _ _ hx'.out hy'.out hbv'.out]; rfl, hb.out.trans ((below_drewN _ _).mono hb.out.size)⟩
    · obtain rfl : n1 = k := by omega
      go_wp2; go_ret; exact ⟨by rw [hT.out hp.out]; rfl, hb.out⟩
 · have hs : sameL l m = false := sameL_ne (by rw [g1.out.len, g2.out.len]; exact hn); rw [hs]; clear hs; have hn1 : ¬ (n1 : Int) = n2 := by omega
   have hn2 : decide (n1 = n2) = false := decide_eq_false hn
   go_enter Tryz.func83, Tryz.ntmps83
   go_wp2; go_ret; exact ⟨rfl, Below.refl _ _⟩
set_option maxRecDepth 100000 in
theorem same_any (q1 : Option Addr) (n1 c1 : Nat) (l : List RowD) (q2 : Option Addr) (n2 c2 : Nat) (m : List RowD) (w : World) (h1 : RowsOn w q1 n1 c1 l) (h2 : RowsOn w q2 n2 c2 m) :
 Calls Tryz.prog 55 #[.slice q1 n1 c1, .slice q2 n2 c2] w (fun e w' => e = .returned (.bool (sameL l m)) ∧ Below w.heap.size w w') := by
 have hc := lh (equal_any q1 n1 c1 l q2 n2 c2 m w h1 h2); clear h1 h2
 go_enter Tryz.func55, Tryz.ntmps55
 go_wp2_with (go_at_call 83; refine hc.out.mono ?_; rintro e w1 ⟨rfl, hb⟩)
 go_ret; exact ⟨rfl, hb⟩
end Go.Proofs.YtocekhckmpkbmaaGreat
namespace Go.Proofs.YtocekhckmpkbmaaGreat
open Go.RowKit
structure KidD where
 least : KeyD
 page : Int
def KidD.cells (k : KidD) : List Value := [.int .i64 k.least.t, .int .u16 k.least.id, .int .i64 k.page]
structure KidOk (k : KidD) : Prop where
 key : KeyOk k.least
 page : I64 k.page
theorem KidD.one (k : KidD) : ∀ v ∈ k.cells, v.oneCell' = true := by
 intro v hv; simp only [KidD.cells, List.mem_cons, List.not_mem_nil, or_false] at hv; rcases hv with rfl | rfl | rfl <;> rfl
/-- the cells of a list of kids, one behind the other -/
def cellsK : List KidD → List Value
 | [] => []
 | r :: l => r.cells ++ cellsK l
theorem cellsK_get : ∀ (l : List KidD) (i : Nat) (r : KidD), l[i]? = some r → ∀ j x, r.cells[j]? = some x → (cellsK l)[i * 3 + j]? = some x
 | [], i, r, h, _, _, _ => by simp at h
 | s :: l, 0, r, h, j, x, hx => by simp at h; subst h; have hj : j < s.cells.length := (List.getElem?_eq_some_iff.1 hx).1; simp only [cellsK, Nat.zero_mul, Nat.zero_add]; rw [List.getElem?_append_left hj]; exact hx
 | s :: l, i + 1, r, h, j, x, hx => by
   simp at h; have := cellsK_get l i r h j x hx; simp only [cellsK]; rw [List.getElem?_append_right (by simp [KidD.cells]; omega)]; have e : (i + 1) * 3 + j - s.cells.length = i * 3 + j := by simp [KidD.cells]; omega
   rw [e]; exact this
/-- a slice that reads as a list of kids -/
structure KidsOn (w : World) (q : Option Addr) (n c : Nat) (l : List KidD) : Prop where
 len : l.length = n
 le : n ≤ c
 cap : c ≤ maxLen
 nil : q = none → c = 0
 get : ∀ i r, l[i]? = some r → ∃ a, q = some a ∧ ∀ j x, r.cells[j]? = some x → w.cell? ((a.add (i * 3)).add j) = some x
 ok : ∀ r ∈ l, KidOk r
theorem KidsOn.none_ (w : World) : KidsOn w none 0 0 [] := ⟨rfl, Nat.le_refl _, Nat.zero_le _, fun _ => rfl, fun i r h => by simp at h, fun r h => by cases h⟩
theorem KidsOn.below {B : Nat} {w w' : World} {q : Option Addr} {n c : Nat} {l : List KidD} (h : KidsOn w q n c l) (hb : Below B w w') (hB : w.heap.size ≤ B) : KidsOn w' q n c l :=
 ⟨h.len, h.le, h.cap, h.nil, fun i r hi => by
  obtain ⟨a, rfl, hc⟩ := h.get i r hi
  exact ⟨a, rfl, fun j x hj => cell_keeps hb hB (hc j x hj)⟩, h.ok⟩
theorem KidsOn.at {w : World} {q : Option Addr} {n c : Nat} {l : List KidD} (h : KidsOn w q n c l) {i : Nat} (hi : i < n) :
 ∃ a r, q = some a ∧ l[i]? = some r ∧ KidOk r ∧ ∀ j x, r.cells[j]? = some x → w.cell? ((a.add (i * 3)).add j) = some x := by
 have hl := h.len; have hx : l[i]? = some (l[i]'(by omega)) := List.getElem?_eq_getElem (by omega); obtain ⟨a, ha, hc⟩ := h.get i _ hx; exact ⟨a, _, ha, hx, h.ok _ (List.mem_of_getElem? hx), hc⟩
/-- the first rows, or kids, of a slice -/
theorem RowsOn.front {w : World} {q : Option Addr} {n c m : Nat} {l : List RowD} (h : RowsOn w q n c l) (hm : m ≤ n) : RowsOn w q m c (l.take m) :=
 ⟨by rw [List.length_take, h.len]; omega, Nat.le_trans hm h.le, h.cap, h.nil, (fun i r hi => by
  rw [List.getElem?_take] at hi
  split at hi
  · exact h.get i r hi
  · cases hi), fun r hr => h.ok r (List.mem_of_mem_take hr)⟩
theorem KidsOn.front {w : World} {q : Option Addr} {n c m : Nat} {l : List KidD} (h : KidsOn w q n c l) (hm : m ≤ n) : KidsOn w q m c (l.take m) :=
 ⟨by rw [List.length_take, h.len]; omega, Nat.le_trans hm h.le, h.cap, h.nil, (fun i r hi => by
  rw [List.getElem?_take] at hi
  split at hi
  · exact h.get i r hi
  · cases hi), fun r hr => h.ok r (List.mem_of_mem_take hr)⟩
/-- The slice v holds just these kids, in a block of its own from block base on. -/
def OwnK (w : World) (base : Nat) (v : Value) (l : List KidD) : Prop := w.ownsRow base 100 3 v l.length (cellsK l)
theorem OwnK.nil (w : World) (base : Nat) : OwnK w base (.slice none 0 0) [] := World.ownsRow_nil w base _ 3
theorem OwnK.shape {w : World} {base : Nat} {v : Value} {l : List KidD} (h : OwnK w base v l) : ∃ q c, v = .slice q l.length c := by
 obtain ⟨_, ⟨he, h0⟩ | ⟨g, cap, cur, he, _⟩⟩ := h
 · exact ⟨none, 0, by rw [he, h0]⟩
 · exact ⟨_, _, he⟩
theorem OwnK.len {w : World} {base : Nat} {q : Option Addr} {n c : Nat} {l : List KidD} (h : OwnK w base (.slice q n c) l) : n = l.length := by
 obtain ⟨q', c', e⟩ := h.shape
 injection e
theorem OwnK.far {w : World} {base : Nat} {q : Option Addr} {n c : Nat} {l : List KidD} (h : OwnK w base (.slice q n c) l) : ∀ a, q = some a → base ≤ a.block ∧ a.block < w.heap.size := by
 intro a ha; obtain ⟨_, ⟨he, _⟩ | ⟨g, cap, cur, he, hg, hh, _⟩⟩ := h
 · simp only [Value.slice.injEq] at he; obtain ⟨rfl, _⟩ := he; cases ha
 · simp only [Value.slice.injEq] at he; obtain ⟨rfl, _⟩ := he; cases ha; exact ⟨hg, (Array.getElem?_eq_some_iff.1 hh).1⟩
theorem OwnK.kept {w w' : World} {base : Nat} {q : Option Addr} {n c : Nat} {l : List KidD} (h : OwnK w base (.slice q n c) l) (hb : ∀ a, q = some a → w'.heap[a.block]? = w.heap[a.block]?) : OwnK w' base (.slice q n c) l := by
 obtain ⟨hlen, ⟨he, h0⟩ | ⟨g, cap, cur, he, hg, hh, r⟩⟩ := h
 · exact ⟨hlen, .inl ⟨he, h0⟩⟩
 · simp only [Value.slice.injEq] at he; obtain ⟨rfl, e2, rfl⟩ := he; exact ⟨hlen, .inr ⟨g, c, cur, by rw [e2], hg, by rw [hb _ rfl]; exact hh, r⟩⟩
theorem OwnK.below {w w' : World} {base : Nat} {q : Option Addr} {n c : Nat} {l : List KidD} (h : OwnK w base (.slice q n c) l) (hb : Below w.heap.size w w') : OwnK w' base (.slice q n c) l :=
 h.kept fun a ha => hb.block _ (h.far a ha).2
theorem OwnK.mono {w : World} {b b' : Nat} {v : Value} {l : List KidD} (h : OwnK w b v l) (hb : b' ≤ b) : OwnK w b' v l := by
 obtain ⟨hlen, hr | ⟨g, cap, cur, he, hg, r⟩⟩ := h
 · exact ⟨hlen, .inl hr⟩
 · exact ⟨hlen, .inr ⟨g, cap, cur, he, Nat.le_trans hb hg, r⟩⟩
theorem OwnK.reads {w : World} {base : Nat} {q : Option Addr} {n c : Nat} {l : List KidD} (h : OwnK w base (.slice q n c) l) (hok : ∀ r ∈ l, KidOk r) : KidsOn w q n c l := by
 have hl := h.len; have hc := fun g hg => World.ownsRow.cells (h := h) (g := g) hg
 obtain ⟨hlen, ⟨he, h0⟩ | ⟨g, cap, cur, he, hg, hh, hle, hm, r⟩⟩ := h
 · simp only [Value.slice.injEq] at he; obtain ⟨rfl, rfl, rfl⟩ := he; exact ⟨hl.symm, Nat.le_refl _, Nat.zero_le _, fun _ => rfl, fun i r hi => by rw [List.eq_nil_of_length_eq_zero hl.symm] at hi; simp at hi, hok⟩
 · simp only [Value.slice.injEq] at he; obtain ⟨rfl, e2, rfl⟩ := he; refine ⟨hl.symm, by omega, hm, (fun e => by cases e), fun i r hi => ⟨_, rfl, fun j x hj => ?_⟩, hok⟩; rw [Go.Deep.add_add]; exact hc g rfl _ _ (cellsK_get l i r hi j x hj)
theorem infoKid : (Tryz.prog.info? 100).map (fun i => (i.zero, i.size, i.bytes)) = some (some (.agg #[.int .i64 0, .int .u16 0, .int .i64 0]), 3, 24) := by kernel_rfl
theorem sizeKid (t id p : Int) : (Tryz.prog.info? 100).map (·.size) = some [Value.int .i64 t, Value.int .u16 id, Value.int .i64 p].length := by kernel_rfl
theorem sizeCont (a b c : Value) : (Tryz.prog.info? 55).map (·.size) = some [a, b, c].length := by kernel_rfl
theorem sizeRd (a : Value) : (Tryz.prog.info? 190).map (·.size) = some [a].length := by kernel_rfl
/-! worlds that differ in one block, and in new ones -/
theorem Gr.refl (w : World) (g : Nat) : w.grownBy w (some g) := ⟨rfl, rfl, rfl, Nat.le_refl _, fun _ _ _ => rfl⟩
theorem Gr.trans {a b c : World} {g : Nat} (h : a.grownBy b (some g)) (k : b.grownBy c (some g)) : a.grownBy c (some g) :=
 ⟨k.os.trans h.os, k.tape.trans h.tape, k.output.trans h.output, Nat.le_trans h.size k.size, fun j hj hn => (k.block j (Nat.lt_of_lt_of_le hj h.size) hn).trans (h.block j hj hn)⟩
theorem Gr.after {a b c : World} {g : Nat} (h : Below a.heap.size a b) (k : b.grownBy c (some g)) : a.grownBy c (some g) := Gr.trans (below_grown h _) k
theorem Gr.then {a b c : World} {g : Nat} (h : a.grownBy b (some g)) (k : Below b.heap.size b c) : a.grownBy c (some g) := Gr.trans h (below_grown k _)
theorem Gr.cell {w w' : World} {g : Nat} (h : w.grownBy w' (some g)) {a : Addr} {v : Value} (hne : a.block ≠ g) (hc : w.cell? a = some v) : w'.cell? a = some v := by
 rw [World.cell?_of_block (w := w) (h.block _ (cell_in hc) (fun e => hne (by simpa using e)))]; exact hc
theorem Gr.own {a b c : World} {g h : Nat} (k : a.grownBy b (some g)) (m : b.grownBy c (some h)) (hh : a.heap.size ≤ h) : a.grownBy c (some g) :=
 ⟨m.os.trans k.os, m.tape.trans k.tape, m.output.trans k.output, Nat.le_trans k.size m.size, fun j hj hn => (m.block j (Nat.lt_of_lt_of_le hj k.size) (fun e => by cases e; omega)).trans (k.block j hj hn)⟩
/-- what is new lies above -/
theorem Gr.below {w u w' : World} {g : Nat} (h : u.grownBy w' (some g)) (hb : Below w.heap.size w u) (hg : w.heap.size ≤ g) : Below w.heap.size w w' :=
 hb.trans (grown_belowN h hb.size fun k e => by cases e; exact hg)
theorem Gr.drew (w : World) (g : Nat) : w.grownBy w.drew (some g) := below_grown (below_drew w) _
theorem Boxed.gr {w w' : World} {b g : Nat} {vs : List Value} (h : Boxed w b vs) (hg : w.grownBy w' (some g)) (hne : b ≠ g) : Boxed w' b vs := fun j x hj => Gr.cell hg (by
 rw [show ((⟨b, 0, none⟩ : Addr).add j).block = b from by unfold Addr.add; split <;> rfl]
 exact hne) (h j x hj)
theorem RowV.gr {T : TypeId} {w w' : World} {b g : Nat} {vs : List Value} (h : RowV T w b vs) (hg : w.grownBy w' (some g)) (hne : b ≠ g) : RowV T w' b vs :=
 h.block (hg.block b (Array.getElem?_eq_some_iff.1 h).1 (fun e => hne (by simpa using e)))
theorem RowsOn.gr {w w' : World} {q : Option Addr} {n c g : Nat} {l : List RowD} (h : RowsOn w q n c l) (hg : w.grownBy w' (some g)) (hne : ∀ a, q = some a → a.block ≠ g) : RowsOn w' q n c l :=
 ⟨h.len, h.le, h.cap, h.nil, fun i r hi => by
  obtain ⟨a, rfl, hc⟩ := h.get i r hi; refine ⟨a, rfl, fun j x hj => Gr.cell hg ?_ (hc j x hj)⟩; have : ((a.add (i * 4)).add j).block = a.block := by unfold Addr.add; (repeat' split) <;> rfl
  rw [this]; exact hne a rfl, h.ok⟩
theorem KidsOn.gr {w w' : World} {q : Option Addr} {n c g : Nat} {l : List KidD} (h : KidsOn w q n c l) (hg : w.grownBy w' (some g)) (hne : ∀ a, q = some a → a.block ≠ g) : KidsOn w' q n c l :=
 ⟨h.len, h.le, h.cap, h.nil, fun i r hi => by
  obtain ⟨a, rfl, hc⟩ := h.get i r hi; refine ⟨a, rfl, fun j x hj => Gr.cell hg ?_ (hc j x hj)⟩; have : ((a.add (i * 3)).add j).block = a.block := by unfold Addr.add; (repeat' split) <;> rfl
  rw [this]; exact hne a rfl, h.ok⟩
end Go.Proofs.YtocekhckmpkbmaaGreat
