/- Parts of the proof: A reader by what it has ahead and what it is stuck with: number and Raw in one contract each; The contracts of U8, U16, U32, U64, Left, Err and Read; A slice of bytes that the call itself made: append, and the parts of a slice, as laws for the walk; Rows, keys and schemas as they lie in memory; nothing of a program is claimed here; A region that draws its order, walked in the order of its text: what reads is taken first; what is left stands in one order. Nothing of a program is claimed here; Compare of row: how two keys stand; Check of row, and the document's Right: which schemas may be -/
import Derived.Test.YtocekhckmpkbmaaGreatQ01
import Derived.Deep.AppendSrc
import Derived.Laws.StructEq
import Derived.Laws.OwnMore
import Derived.Handy
import Derived.IntWalk
import Derived.Lib.SmallJoins
import Derived.OrdersHeld
import Derived.StillTailTactics
import Derived.BigQuiet
import Derived.Deep.QuietTactic
namespace Go.Proofs.YtocekhckmpkbmaaGreat
open Go.RowKit
def gOk (k : Int) (l : List UInt8) (err : Int) : Bool := err == 0 && decide (0 ≤ k) && decide (k ≤ l.length)
def numV (k : Int) (l : List UInt8) (err : Int) : Int := if gOk k l err then num (l.take k.toNat) else 0
def nextL (k : Int) (l : List UInt8) (err : Int) : List UInt8 := if gOk k l err then l.drop k.toNat else l
def nextE (k : Int) (l : List UInt8) (err : Int) : Int := if gOk k l err then 0 else if err = 0 then (if k < 0 then 2 else 7) else err
def rawL (k : Int) (l : List UInt8) (err : Int) : List UInt8 := if gOk k l err then l.take k.toNat else []
/-- The reader at block g has the bytes l ahead, in block d if there is one, and is stuck with err (0: it is not). -/
def Rdr (w : World) (g : Nat) (d : Option Nat) (l : List UInt8) (err : Int) : Prop :=
 ∃ p n c, RdrV w g p n c err ∧ Lib.HoldsBytes w (.slice p n c) l ∧ n ≤ c ∧ n ≤ 140737488355328 ∧ p.map (·.block) = d ∧ d ≠ some g ∧ ∀ x, d = some x → x < w.heap.size
theorem holds_len {w : World} {p : Option Addr} {n c : Nat} {l : List UInt8} (h : Lib.HoldsBytes w (.slice p n c) l) : n = l.length := by
 obtain ⟨_, _, he, _⟩ := h; cases he; rfl
theorem Rdr.keep {w w' : World} {g h : Nat} {d : Option Nat} {l : List UInt8} {err : Int} (r : Rdr w g d l err) (hg : w.grownBy w' (some h)) (h1 : h ≠ g) (h2 : d ≠ some h) : Rdr w' g d l err := by
 obtain ⟨p, n, c, hr, hv, hnc, hn, hp, hd, hx⟩ := r
 refine ⟨p, n, c, hr.block (hg.block g hr.lt (by simpa using fun e => h1 e.symm)), holds_block hv (fun a n c e => ?_), hnc, hn, hp, hd, fun x e => Nat.lt_of_lt_of_le (hx x e) hg.size⟩
 cases e
 have : d = some a.block := by rw [← hp]; rfl
 exact hg.block _ (hx _ this) (by simpa [this] using h2)
theorem Rdr.below {w w' : World} {g : Nat} {d : Option Nat} {l : List UInt8} {err : Int} (r : Rdr w g d l err) (hb : Below w.heap.size w w') : Rdr w' g d l err := by
 obtain ⟨p, n, c, hr, hv, hnc, hn, hp, hd, hx⟩ := r
 exact ⟨p, n, c, hr.block (hb.block g hr.lt), holds_below hv hb (Nat.le_refl _), hnc, hn, hp, hd, fun x e => Nat.lt_of_lt_of_le (hx x e) hb.size⟩
theorem tl_block (p : Option Addr) (c k : Nat) : (tl p c k).map (·.block) = p.map (·.block) := by
 unfold tl
 split
 · rfl
 · cases p with
   | none => rfl
   | some a => simp only [Option.map_some]; congr 1; unfold Addr.add; split <;> rfl
theorem holds_drop {w : World} {p : Option Addr} {n c k : Nat} {l : List UInt8} (h : Lib.HoldsBytes w (.slice p n c) l) (hk : k ≤ n) (hnc : n ≤ c) : Lib.HoldsBytes w (.slice (tl p c k) (n - k) (c - k)) (l.drop k) := by
 obtain ⟨q, cap, he, h1, h2⟩ := h
 cases he
 refine ⟨tl p c k, c - k, by rw [List.length_drop], fun hp => ?_, fun a ha i x hx => ?_⟩
 · unfold tl at hp
   split at hp
   · rw [h1 hp]; simp
   · cases p with
     | none => rw [h1 rfl]; simp
     | some a => cases hp
 · rw [List.getElem?_drop] at hx
   have hi : k + i < l.length := (List.getElem?_eq_some_iff.1 hx).1
   unfold tl at ha
   rw [if_neg (by omega)] at ha
   cases p with
   | none => cases ha
   | some b =>
     cases ha
     rw [Addr.add_add]
     exact h2 b rfl (k + i) x hx
theorem Rdr.next {w w' : World} {g n c k : Nat} {d : Option Nat} {p : Option Addr} {l : List UInt8} (hr : RdrV w' g (tl p c k) (n - k) (c - k) 0) (hv : Lib.HoldsBytes w (.slice p n c) l) (hg : w.grownBy w' (some g)) (hnc : n ≤ c) (hn : n ≤ 140737488355328)
 (hp : p.map (·.block) = d) (hd : d ≠ some g) (hx : ∀ x, d = some x → x < w.heap.size) (hk : k ≤ n) : Rdr w' g d (l.drop k) 0 := by
 refine ⟨_, _, _, hr, ?_, by omega, by omega, by rw [tl_block, hp], hd, fun x e => Nat.lt_of_lt_of_le (hx x e) hg.size⟩
 refine holds_block (holds_drop hv hk hnc) (fun a n' c' e => ?_)
 have : d = some a.block := by
  rw [← hp, ← tl_block p c k]
  injection e with e1
  rw [e1]; rfl
 exact hg.block _ (hx _ this) (by simpa [this] using hd)
theorem Rdr.same {w w' : World} {g n c : Nat} {d : Option Nat} {p : Option Addr} {l : List UInt8} {err : Int} (hr : RdrV w' g p n c err) (hv : Lib.HoldsBytes w (.slice p n c) l) (hg : w.grownBy w' (some g)) (hnc : n ≤ c) (hn : n ≤ 140737488355328)
 (hp : p.map (·.block) = d) (hd : d ≠ some g) (hx : ∀ x, d = some x → x < w.heap.size) : Rdr w' g d l err := by
 refine ⟨_, _, _, hr, ?_, hnc, hn, hp, hd, fun x e => Nat.lt_of_lt_of_le (hx x e) hg.size⟩
 refine holds_block hv (fun a n c e => ?_)
 have : d = some a.block := by
  rw [← hp]
  cases e; rfl
 exact hg.block _ (hx _ this) (by simpa [this] using hd)
def StepPost (v : Value) (w : World) (g : Nat) (d : Option Nat) (k : Int) (l : List UInt8) (err : Int) (e : Ending) (w' : World) : Prop :=
 e = .returned v ∧ w.grownBy w' (some g) ∧ Rdr w' g d (nextL k l err) (nextE k l err)
theorem number_any (g : Nat) (d : Option Nat) (k err : Int) (l : List UInt8) (w : World) (h : Rdr w g d l err) (hk0 : 0 ≤ k) (hk : k ≤ 8) :
 Calls Tryz.prog 101 #[.pointer (some ⟨g, 0, none⟩), .int .i64 k] w (StepPost (.int .u64 (numV k l err)) w g d k l err) := by
 obtain ⟨p, n, c, hr, hv, hnc, hn, hp, hd, hx⟩ := h
 have hl := holds_len hv
 obtain ⟨k, rfl⟩ : ∃ m : Nat, k = m := ⟨k.toNat, by omega⟩
 by_cases he : err = 0
 · subst he
   by_cases hkn : k ≤ n
   · have ok : gOk k l 0 = true := by simp [gOk]; omega
     refine (number_ok g n c k p l w hr hv hnc (fun a ha => hx _ (by rw [← hp, ha]; rfl)) hkn (by omega)).mono ?_
     rintro e w' ⟨rfl, hg, hr'⟩
     refine ⟨by simp [numV, ok], hg, ?_⟩
     simp only [nextL, nextE, ok, if_true, Int.toNat_natCast]
     exact Rdr.next hr' hv hg hnc hn hp hd hx hkn
   · have ok : gOk k l 0 = false := by simp [gOk]; omega
     refine (number_short g n c k p w hr (by omega)).mono ?_
     rintro e w' ⟨rfl, hg, hr'⟩
     refine ⟨by simp [numV, ok], hg, ?_⟩
     simp only [nextL, nextE, ok, if_neg (show ¬ ((k : Int) < 0) by omega), if_true]
     exact Rdr.same hr' hv hg hnc hn hp hd hx
 · have ok : gOk k l err = false := by simp [gOk, he]
   refine (number_stuck g n c k err p w hr he).mono ?_
   rintro e w' ⟨rfl, hb⟩
   refine ⟨by simp [numV, ok], below_grown hb _, ?_⟩
   simp only [nextL, nextE, ok, if_neg he]
   exact Rdr.below ⟨p, n, c, hr, hv, hnc, hn, hp, hd, hx⟩ hb
def RawStep (w : World) (g : Nat) (d : Option Nat) (k : Int) (l : List UInt8) (err : Int) (e : Ending) (w' : World) : Prop :=
 ∃ q c, e = .returned (.slice q (rawL k l err).length c) ∧ New w.heap.size w' (.slice q (rawL k l err).length c) (rawL k l err) ∧ w.grownBy w' (some g) ∧ Rdr w' g d (nextL k l err) (nextE k l err)
theorem new_nil (B : Nat) (w : World) : New B w (.slice none 0 0) [] := ⟨⟨none, 0, rfl, fun _ => rfl, fun a ha => by cases ha⟩, fun a n c h => by cases h⟩
theorem raw_any (g : Nat) (d : Option Nat) (k err : Int) (l : List UInt8) (w : World) (h : Rdr w g d l err) :
 Calls Tryz.prog 147 #[.pointer (some ⟨g, 0, none⟩), .int .i64 k] w (RawStep w g d k l err) := by
 obtain ⟨p, n, c, hr, hv, hnc, hn, hp, hd, hx⟩ := h
 have hl := holds_len hv
 by_cases he : err = 0
 · subst he
   by_cases hneg : k < 0
   · have ok : gOk k l 0 = false := by simp [gOk]; omega
     refine (raw_neg g n c k p w hr hneg).mono ?_
     rintro e w' ⟨rfl, hg, hr'⟩
     refine ⟨none, 0, by simp [rawL, ok], by simp only [rawL, ok]; exact new_nil _ _, hg, ?_⟩
     simp only [nextL, nextE, ok, if_pos hneg, if_true]
     exact Rdr.same hr' hv hg hnc hn hp hd hx
   · obtain ⟨k, rfl⟩ : ∃ m : Nat, k = m := ⟨k.toNat, by omega⟩
     by_cases hkn : k ≤ n
     · have ok : gOk k l 0 = true := by simp [gOk]; omega
       refine (raw_ok g n c k p l w hr hv hnc hkn (by omega)).mono ?_
       rintro e w' ⟨q, c', rfl, hnew, hg, hr'⟩
       have hlen : (rawL k l 0).length = k := by simp [rawL, ok]; omega
       refine ⟨q, c', by rw [hlen], by rw [hlen]; simpa [rawL, ok] using hnew, hg, ?_⟩
       simp only [nextL, nextE, ok, if_true, Int.toNat_natCast]
       exact Rdr.next hr' hv hg hnc hn hp hd hx hkn
     · have ok : gOk k l 0 = false := by simp [gOk]; omega
       refine (raw_short g n c k p w hr (by omega)).mono ?_
       rintro e w' ⟨rfl, hg, hr'⟩
       refine ⟨none, 0, by simp [rawL, ok], by simp only [rawL, ok]; exact new_nil _ _, hg, ?_⟩
       simp only [nextL, nextE, ok, if_neg hneg, if_true]
       exact Rdr.same hr' hv hg hnc hn hp hd hx
 · have ok : gOk k l err = false := by simp [gOk, he]
   refine (raw_stuck g n c k err p w hr he).mono ?_
   rintro e w' ⟨rfl, hb⟩
   refine ⟨none, 0, by simp [rawL, ok], by simp only [rawL, ok]; exact new_nil _ _, below_grown hb _, ?_⟩
   simp only [nextL, nextE, ok, if_neg he]
   exact Rdr.below ⟨p, n, c, hr, hv, hnc, hn, hp, hd, hx⟩ hb
theorem numV_lt (k : Nat) (l : List UInt8) (err : Int) : 0 ≤ numV k l err ∧ numV k l err < 256 ^ k := by
 unfold numV
 split
 · refine ⟨by omega, ?_⟩
   have h := num_lt (l.take k)
   have h2 : 256 ^ (l.take k).length ≤ 256 ^ k := Nat.pow_le_pow_right (by omega) (by rw [List.length_take]; omega)
   have h3 : num (l.take k) < 256 ^ k := by omega
   have : ((num (l.take k) : Nat) : Int) < ((256 ^ k : Nat) : Int) := by exact_mod_cast h3
   rw [Int.natCast_pow] at this; exact this
 · refine ⟨Int.le_refl _, ?_⟩
   have : ((0 : Nat) : Int) < ((256 ^ k : Nat) : Int) := Int.ofNat_lt.2 (Nat.pow_pos (by omega))
   rw [Int.natCast_pow] at this; exact this
end Go.Proofs.YtocekhckmpkbmaaGreat
namespace Go.Proofs.YtocekhckmpkbmaaGreat
open Go.RowKit
theorem numV1 (l : List UInt8) (err : Int) : 0 ≤ numV 1 l err ∧ numV 1 l err < 256 := numV_lt 1 l err
theorem numV2 (l : List UInt8) (err : Int) : 0 ≤ numV 2 l err ∧ numV 2 l err < 65536 := numV_lt 2 l err
theorem numV4 (l : List UInt8) (err : Int) : 0 ≤ numV 4 l err ∧ numV 4 l err < 4294967296 := numV_lt 4 l err
set_option maxHeartbeats 400000 in
theorem u8_any (g : Nat) (d : Option Nat) (err : Int) (l : List UInt8) (w : World) (h : Rdr w g d l err) :
 Calls Tryz.prog 73 #[.pointer (some ⟨g, 0, none⟩)] w (StepPost (.int .u8 (numV 1 l err)) w g d 1 l err) := by
 have h1 := Lib.hid h
 obtain ⟨b0, b1⟩ := numV1 l err
 clear h
 go_enter Tryz.func73, Tryz.ntmps73
 go_wp2_with (go_at_call 101; refine (number_any g d 1 err l w h1.out (by omega) (by omega)).mono ?_; rintro e w' ⟨rfl, hg, hr⟩)
 go_ret
 exact ⟨rfl, hg, hr⟩
set_option maxHeartbeats 400000 in
theorem u16_any (g : Nat) (d : Option Nat) (err : Int) (l : List UInt8) (w : World) (h : Rdr w g d l err) :
 Calls Tryz.prog 152 #[.pointer (some ⟨g, 0, none⟩)] w (StepPost (.int .u16 (numV 2 l err)) w g d 2 l err) := by
 have h1 := Lib.hid h
 obtain ⟨b0, b1⟩ := numV2 l err
 clear h
 go_enter Tryz.func152, Tryz.ntmps152
 go_wp2_with (go_at_call 101; refine (number_any g d 2 err l w h1.out (by omega) (by omega)).mono ?_; rintro e w' ⟨rfl, hg, hr⟩)
 go_ret
 exact ⟨rfl, hg, hr⟩
set_option maxHeartbeats 400000 in
theorem u32_any (g : Nat) (d : Option Nat) (err : Int) (l : List UInt8) (w : World) (h : Rdr w g d l err) :
 Calls Tryz.prog 75 #[.pointer (some ⟨g, 0, none⟩)] w (StepPost (.int .u32 (numV 4 l err)) w g d 4 l err) := by
 have h1 := Lib.hid h
 obtain ⟨b0, b1⟩ := numV4 l err
 clear h
 go_enter Tryz.func75, Tryz.ntmps75
 go_wp2_with (go_at_call 101; refine (number_any g d 4 err l w h1.out (by omega) (by omega)).mono ?_; rintro e w' ⟨rfl, hg, hr⟩)
 go_ret
 exact ⟨rfl, hg, hr⟩
set_option maxHeartbeats 400000 in
theorem u64_any (g : Nat) (d : Option Nat) (err : Int) (l : List UInt8) (w : World) (h : Rdr w g d l err) :
 Calls Tryz.prog 74 #[.pointer (some ⟨g, 0, none⟩)] w (StepPost (.int .u64 (numV 8 l err)) w g d 8 l err) := by
 have h1 := Lib.hid h
 clear h
 go_enter Tryz.func74, Tryz.ntmps74
 go_wp2_with (go_at_call 101; refine (number_any g d 8 err l w h1.out (by omega) (by omega)).mono ?_; rintro e w' ⟨rfl, hg, hr⟩)
 go_ret
 exact ⟨rfl, hg, hr⟩
set_option maxHeartbeats 400000 in
theorem left_any (g : Nat) (d : Option Nat) (err : Int) (l : List UInt8) (w : World) (h : Rdr w g d l err) :
 Calls Tryz.prog 78 #[.pointer (some ⟨g, 0, none⟩)] w (fun e w' => e = .returned (.int .i64 (l.length : Int)) ∧ w = w') := by
 obtain ⟨p, n, c, hr, hv, _⟩ := h
 obtain rfl := holds_len hv
 have c0 := hr.c0
 clear hr hv
 go_enter Tryz.func78, Tryz.ntmps78
 go_wp2
 go_ret
 exact ⟨rfl, rfl⟩
set_option maxHeartbeats 400000 in
theorem err_any (g : Nat) (d : Option Nat) (err : Int) (l : List UInt8) (w : World) (h : Rdr w g d l err) :
 Calls Tryz.prog 77 #[.pointer (some ⟨g, 0, none⟩)] w (fun e w' => e = .returned (.int .i64 err) ∧ w = w') := by
 obtain ⟨p, n, c, hr, hv, _⟩ := h
 have c1 := hr.c1
 clear hr hv
 go_enter Tryz.func77, Tryz.ntmps77
 go_wp2
 go_ret
 exact ⟨rfl, rfl⟩
def ReadPost (w : World) (l : List UInt8) (e : Ending) (w' : World) : Prop :=
 ∃ g d, e = .returned (.pointer (some ⟨g, 0, none⟩)) ∧ Rdr w' g d l 0 ∧ w.heap.size ≤ g ∧ (∀ x, d = some x → w.heap.size ≤ x) ∧ Below w.heap.size w w'
theorem read_shut {w w1 : World} {q : Option Addr} {n c : Nat} {l : List UInt8} (hnew : New w.heap.size w1 (.slice q n c) l) (hb : Below w.heap.size w w1) (hn : l.length ≤ 140737488355328) :
 ReadPost w l (.returned (.pointer (some ⟨w1.heap.size, 0, none⟩))) (w1.alloc (.cells #[.slice q n c, .int .i64 0] 151)) := by
 have hl := holds_len hnew.1
 refine ⟨w1.heap.size, q.map (·.block), rfl, ⟨q, n, c, heap_alloc_new _ _, ?_, ?_, by omega, rfl, ?_, ?_⟩, hb.size, ?_, hb.alloc hb.size _⟩
 · exact holds_below hnew.1 ((Below.refl _ _).alloc (Nat.le_refl _) _) (Nat.le_refl _)
 · cases q with
   | none => obtain ⟨_, _, he, h1, _⟩ := hnew.1; cases he; rw [h1 rfl]; simp
   | some a => exact (hnew.2 a n c rfl).2.2
 · cases q with
   | none => simp
   | some a => have := (hnew.2 a n c rfl).2.1; simp; omega
 · intro x e
   cases q with
   | none => cases e
   | some a => have := (hnew.2 a n c rfl).2.1; cases e; simp; omega
 · intro x e
   cases q with
   | none => cases e
   | some a => have := (hnew.2 a n c rfl).1; cases e; exact this
set_option maxHeartbeats 400000 in
theorem read_any (p : Option Addr) (n c : Nat) (l : List UInt8) (w : World) (hv : Lib.HoldsBytes w (.slice p n c) l) (hn : n ≤ 140737488355328) :
 Calls Tryz.prog 72 #[.slice p n c] w (ReadPost w l) := by
 have hl := holds_len hv
 have hv1 := Lib.hid hv
 have hn1 : Hid (l.length ≤ 140737488355328) := by show _ ≤ _; omega
 clear hv hl
 go_enter Tryz.func72, Tryz.ntmps72
 go_wp2_with (go_at_call 100; refine (clone p n c l w hv1.out hn).mono ?_; rintro e w1 ⟨q, c', rfl, hnew, hb⟩)
 go_ret
 exact read_shut hnew hb hn1.out
end Go.Proofs.YtocekhckmpkbmaaGreat
namespace Go.Proofs.YtocekhckmpkbmaaGreat
open Go.RowKit
/-- The slice v holds the bytes l in a row of its own from block base on. -/
def Own (w : World) (base : Nat) (v : Value) (l : List UInt8) : Prop := w.ownsRow base 5 1 v l.length (vals l)
theorem Own.holds {w : World} {base : Nat} {q : Option Addr} {n c : Nat} {l : List UInt8} (h : Own w base (.slice q n c) l) : Lib.HoldsBytes w (.slice q n c) l ∧ n ≤ c ∧ (∀ a, q = some a → base ≤ a.block ∧ a.block < w.heap.size) := by
 obtain ⟨hlen, ⟨he, h0⟩ | ⟨g, cap, cur, he, hg, hh, hle, hm, hsz, htk⟩⟩ := h
 · cases he
   have : l = [] := List.eq_nil_of_length_eq_zero h0
   subst this
   exact ⟨⟨none, 0, rfl, fun _ => rfl, fun a ha => by cases ha⟩, Nat.le_refl _, fun a ha => by cases ha⟩
 · cases he
   refine ⟨⟨some ⟨g, 0, none⟩, c, rfl, (fun h => by cases h), fun a ha i x hx => ?_⟩, hle, fun a ha => by cases ha; exact ⟨hg, (Array.getElem?_eq_some_iff.1 hh).1⟩⟩
   cases ha
   have hadd : (⟨g, 0, none⟩ : Addr).add i = ⟨g, i, none⟩ := by unfold Addr.add; split <;> simp_all
   have hi : i < l.length := (List.getElem?_eq_some_iff.1 hx).1
   rw [hadd, cell_of_row w g i cur 5 (0, 0) hh]
   have h3 := congrArg (·[i]?) htk
   simp only [Nat.mul_one] at h3
   rw [List.getElem?_take_of_lt hi] at h3
   rw [← Array.getElem?_toList, h3]
   simp [vals, hx]
theorem Own.shape {w : World} {base : Nat} {v : Value} {l : List UInt8} (h : Own w base v l) : ∃ q c, v = .slice q l.length c := by
 obtain ⟨hlen, ⟨he, h0⟩ | ⟨g, cap, cur, he, _⟩⟩ := h
 · exact ⟨none, 0, by rw [he, h0]⟩
 · exact ⟨_, _, he⟩
theorem Own.made {w : World} {n : Nat} (hn : n ≤ maxLen) : Own (w.alloc (.cells (vals (zs n)).toArray 5)) w.heap.size (.slice (some ⟨w.heap.size, 0, none⟩) 0 n) [] :=
 World.ownsRow_made w _ n (Nat.le_refl _) hn (by simp [vals, zs])
theorem Own.kept {w w' : World} {base : Nat} {q : Option Addr} {n c : Nat} {l : List UInt8} (h : Own w base (.slice q n c) l) (hb : ∀ a, q = some a → w'.heap[a.block]? = w.heap[a.block]?) : Own w' base (.slice q n c) l := by
 obtain ⟨hlen, ⟨he, h0⟩ | ⟨g, cap, cur, he, hg, hh, r⟩⟩ := h
 · exact ⟨hlen, Or.inl ⟨he, h0⟩⟩
 · cases he
   exact ⟨hlen, Or.inr ⟨g, c, cur, rfl, hg, by rw [hb _ rfl]; exact hh, r⟩⟩
theorem Own.below {w w' : World} {base : Nat} {q : Option Addr} {n c : Nat} {l : List UInt8} (h : Own w base (.slice q n c) l) (hb : Below w.heap.size w w') : Own w' base (.slice q n c) l :=
 h.kept fun a ha => hb.block _ (h.holds.2.2 a ha).2
def blockOf (q : Option Addr) : Option Nat := q.map (·.block)
theorem run_append_bytes {w : World} {base : Nat} {q0 q : Option Addr} {n0 c0 m d : Nat} {l k : List UInt8} (ty : TypeId) (hown : Own w base (.slice q0 n0 c0) l) (hk : Lib.HoldsBytes w (.slice q m d) k) (hbig : n0 + m ≤ 1099511627776) (hbase : base ≤ w.heap.size) :
 ∃ q' c' w', (Builtin.append_ #[36, 36] ty #[.slice q0 n0 c0, .slice q m d]).run Tryz.prog w = .ok (.slice q' (n0 + m) c') w' ∧ Own w' base (.slice q' (n0 + m) c') (l ++ k) ∧ w.grownBy w' (blockOf q0) := by
 have e0 := holds_len hown.holds.1
 have em := holds_len hk
 obtain ⟨i0, hi, hz0, hz1, hz2⟩ := info_parts info5
 obtain ⟨q1, cap, he, h1, h2⟩ := hk
 cases he
 cases q with
 | none =>
   have hk0 := h1 rfl
   subst hk0
   simp only [List.length_nil, Nat.add_zero, List.append_nil]
   refine ⟨q0, c0, w, ?_, hown, ⟨rfl, rfl, rfl, Nat.le_refl _, fun _ _ _ => rfl⟩⟩
   cases q0 with
   | none =>
     obtain ⟨_, ⟨he, h0⟩ | ⟨g, cap, cur, he, _⟩⟩ := hown
     · cases he
       simp [Builtin.append_, run_underlying Tryz.underlying36, sizeOf, typeInfo, hi, Builtin.lenOf, Builtin.firstCells]
     · cases he
   | some a =>
     obtain ⟨_, ⟨he, h0⟩ | ⟨g, cap, cur, he, hg, hh, hle, _⟩⟩ := hown
     · cases he
     · cases he
       have h := run_append_room_src (P := Tryz.prog) w 36 36 ty 5 i0 Tryz.underlying36 hi g 0 _ _ (.slice none 0 d) 0 [] (Src.ofNil w Tryz.underlying36 d) (by omega) (by intro j hj; simp at hj) (by intro j hj; simp at hj)
       simpa [World.setCells] using h
 | some a =>
   subst e0
   obtain ⟨v', w', hr, hown', hg, _⟩ := run_append_own (P := Tryz.prog) w base 36 ty 5 i0 (.int .u8 0) 1 1 Tryz.underlying36 hi hz0 hz1 hz2 rfl (by decide) _ l.length (vals l) hown a k.length d (vals k)
    (by rw [length_vals, Nat.mul_one])
    (fun j u hj => by obtain ⟨x, hx, rfl⟩ := vals_get hj; exact h2 a rfl j x hx) (one_vals k) (by unfold maxLen; omega) (by omega) hbase
   have hown2 : Own w' base v' (l ++ k) := by
    unfold Own
    rw [List.length_append, vals_append]
    exact hown'
   obtain ⟨q', c', rfl⟩ := hown2.shape
   rw [List.length_append] at hr hown2
   refine ⟨q', c', w', hr, hown2, ?_⟩
   cases q0 <;> exact hg
theorem wpList_append_bytes {w : World} {ops : Array Oper} {rest : List Oper} {o : Oper} {a : Act} {Q : Exit → Act → World → Prop} (hgd : o.guard = none) (s x : Operand)
 (ho : o.op = .call { callee := .builtin .append, args := #[s, x], argTypes := #[36, 36] }) {base : Nat} {q0 q : Option Addr} {n0 c0 m d : Nat} {l k : List UInt8} (hs : a.eval s = .slice q0 n0 c0) (hx : a.eval x = .slice q m d)
 (hown : Own w base (.slice q0 n0 c0) l) (hk : Lib.HoldsBytes w (.slice q m d) k) (hbig : n0 + m ≤ 1099511627776) (hbase : base ≤ w.heap.size)
 (h : ∀ q' c' w', Own w' base (.slice q' (n0 + m) c') (l ++ k) → w.grownBy w' (blockOf q0) → wpList Tryz.prog ops Q rest (a.put o.dst (.slice q' (n0 + m) c')) w') : wpList Tryz.prog ops Q (o :: rest) a w := by
 obtain ⟨q', c', w', hr, h1, h2⟩ := run_append_bytes o.type hown hk hbig hbase
 exact Lib.wpList_append_run_sl w hgd s x 36 ho _ _ hs hx hr (h q' c' w' h1 h2)
end Go.Proofs.YtocekhckmpkbmaaGreat
namespace Go.Proofs.YtocekhckmpkbmaaGreat
open Go.RowKit
def I64 (x : Int) : Prop := -9223372036854775808 ≤ x ∧ x < 9223372036854775808
structure KeyD where
 t : Int
 id : Int
def KeyD.cells (k : KeyD) : List Value := [.int .i64 k.t, .int .u16 k.id]
structure RowD where
 key : KeyD
 val : Int
 note : ByteArray
def RowD.cells (r : RowD) : List Value := [.int .i64 r.key.t, .int .u16 r.key.id, .int .i64 r.val, .string r.note]
structure KeyOk (k : KeyD) : Prop where
 t : I64 k.t
 id : 0 ≤ k.id ∧ k.id < 65536
structure RowOk (r : RowD) : Prop where
 key : KeyOk r.key
 val : I64 r.val
 note : r.note.size ≤ maxLen
theorem RowD.one (r : RowD) : ∀ v ∈ r.cells, v.oneCell' = true := by
 intro v hv
 simp only [RowD.cells, List.mem_cons, List.not_mem_nil, or_false] at hv
 rcases hv with rfl | rfl | rfl | rfl <;> rfl
theorem KeyD.one (k : KeyD) : ∀ v ∈ k.cells, v.oneCell' = true := by
 intro v hv
 simp only [KeyD.cells, List.mem_cons, List.not_mem_nil, or_false] at hv
 rcases hv with rfl | rfl <;> rfl
/-- the cells of a list of rows, one behind the other -/
def cellsR : List RowD → List Value
 | [] => []
 | r :: l => r.cells ++ cellsR l
theorem cellsR_len : ∀ l : List RowD, (cellsR l).length = l.length * 4
 | [] => rfl
 | r :: l => by simp [cellsR, cellsR_len l, RowD.cells]; omega
theorem cellsR_append : ∀ l m : List RowD, cellsR (l ++ m) = cellsR l ++ cellsR m
 | [], m => rfl
 | r :: l, m => by simp [cellsR, cellsR_append l m]
theorem cellsR_one : ∀ l : List RowD, ∀ v ∈ cellsR l, v.oneCell' = true
 | [], v, h => by cases h
 | r :: l, v, h => by
   rcases List.mem_append.1 h with h | h
   · exact r.one v h
   · exact cellsR_one l v h
theorem cellsR_get : ∀ (l : List RowD) (i : Nat) (r : RowD), l[i]? = some r → ∀ j x, r.cells[j]? = some x → (cellsR l)[i * 4 + j]? = some x
 | [], i, r, h, _, _, _ => by simp at h
 | s :: l, 0, r, h, j, x, hx => by
   simp at h; subst h
   have hj : j < s.cells.length := (List.getElem?_eq_some_iff.1 hx).1
   simp only [cellsR, Nat.zero_mul, Nat.zero_add]
   rw [List.getElem?_append_left hj]; exact hx
 | s :: l, i + 1, r, h, j, x, hx => by
   simp at h
   have := cellsR_get l i r h j x hx
   simp only [cellsR]
   rw [List.getElem?_append_right (by simp [RowD.cells]; omega)]
   have e : (i + 1) * 4 + j - s.cells.length = i * 4 + j := by simp [RowD.cells]; omega
   rw [e]; exact this
theorem cellsR_get' : ∀ (l : List RowD) (k : Nat) (x : Value), (cellsR l)[k]? = some x → ∃ i r j, k = i * 4 + j ∧ l[i]? = some r ∧ r.cells[j]? = some x
 | [], k, x, h => by simp [cellsR] at h
 | s :: l, k, x, h => by
   simp only [cellsR] at h
   by_cases hk : k < 4
   · rw [List.getElem?_append_left (by simp [RowD.cells]; omega)] at h
     exact ⟨0, s, k, by omega, rfl, h⟩
   · rw [List.getElem?_append_right (by simp [RowD.cells]; omega)] at h
     have e : k - s.cells.length = k - 4 := by simp [RowD.cells]
     rw [e] at h
     obtain ⟨i, r, j, h1, h2, h3⟩ := cellsR_get' l (k - 4) x h
     exact ⟨i + 1, r, j, by omega, by simpa using h2, h3⟩
theorem cell_in {w : World} {a : Addr} {v : Value} (h : w.cell? a = some v) : a.block < w.heap.size := by
 rcases Nat.lt_or_ge a.block w.heap.size with h1 | h1
 · exact h1
 · have hn : w.heap[a.block]? = none := Array.getElem?_eq_none h1
   unfold World.cell? at h
   simp [hn] at h
theorem cell_keeps {B : Nat} {w w' : World} (hb : Below B w w') (hB : w.heap.size ≤ B) {a : Addr} {v : Value} (h : w.cell? a = some v) : w'.cell? a = some v := by
 rw [World.cell?_of_block (w := w) (hb.block _ (Nat.lt_of_lt_of_le (cell_in h) hB))]
 exact h
theorem below_drewN (w : World) (k : Nat) : Below w.heap.size w (w.drewN k) := ⟨rfl, rfl, rfl, Nat.le_refl _, fun _ _ => rfl⟩
theorem below_drew (w : World) : Below w.heap.size w w.drew := ⟨rfl, rfl, rfl, Nat.le_refl _, fun _ _ => rfl⟩
/-- a slice that reads as a list of rows -/
structure RowsOn (w : World) (q : Option Addr) (n c : Nat) (l : List RowD) : Prop where
 len : l.length = n
 le : n ≤ c
 cap : c ≤ maxLen
 nil : q = none → c = 0
 get : ∀ i r, l[i]? = some r → ∃ a, q = some a ∧ ∀ j x, r.cells[j]? = some x → w.cell? ((a.add (i * 4)).add j) = some x
 ok : ∀ r ∈ l, RowOk r
theorem RowsOn.none_ (w : World) : RowsOn w none 0 0 [] := ⟨rfl, Nat.le_refl _, Nat.zero_le _, fun _ => rfl, fun i r h => by simp at h, fun r h => by cases h⟩
theorem RowsOn.below {B : Nat} {w w' : World} {q : Option Addr} {n c : Nat} {l : List RowD} (h : RowsOn w q n c l) (hb : Below B w w') (hB : w.heap.size ≤ B) : RowsOn w' q n c l :=
 ⟨h.len, h.le, h.cap, h.nil, fun i r hi => by
  obtain ⟨a, rfl, hc⟩ := h.get i r hi
  exact ⟨a, rfl, fun j x hj => cell_keeps hb hB (hc j x hj)⟩, h.ok⟩
theorem RowsOn.at {w : World} {q : Option Addr} {n c : Nat} {l : List RowD} (h : RowsOn w q n c l) {i : Nat} (hi : i < n) :
 ∃ a r, q = some a ∧ l[i]? = some r ∧ RowOk r ∧ ∀ j x, r.cells[j]? = some x → w.cell? ((a.add (i * 4)).add j) = some x := by
 have hl := h.len
 have hx : l[i]? = some (l[i]'(by omega)) := List.getElem?_eq_getElem (by omega)
 obtain ⟨a, ha, hc⟩ := h.get i _ hx
 exact ⟨a, _, ha, hx, h.ok _ (List.mem_of_getElem? hx), hc⟩
/-- a slice that reads as a list of keys -/
structure KeysOn (w : World) (q : Option Addr) (n c : Nat) (l : List KeyD) : Prop where
 len : l.length = n
 le : n ≤ c
 cap : c ≤ maxLen
 nil : q = none → c = 0
 get : ∀ i r, l[i]? = some r → ∃ a, q = some a ∧ ∀ j x, r.cells[j]? = some x → w.cell? ((a.add (i * 2)).add j) = some x
 ok : ∀ r ∈ l, KeyOk r
theorem KeysOn.below {B : Nat} {w w' : World} {q : Option Addr} {n c : Nat} {l : List KeyD} (h : KeysOn w q n c l) (hb : Below B w w') (hB : w.heap.size ≤ B) : KeysOn w' q n c l :=
 ⟨h.len, h.le, h.cap, h.nil, fun i r hi => by
  obtain ⟨a, rfl, hc⟩ := h.get i r hi
  exact ⟨a, rfl, fun j x hj => cell_keeps hb hB (hc j x hj)⟩, h.ok⟩
theorem KeysOn.at {w : World} {q : Option Addr} {n c : Nat} {l : List KeyD} (h : KeysOn w q n c l) {i : Nat} (hi : i < n) :
 ∃ a r, q = some a ∧ l[i]? = some r ∧ KeyOk r ∧ ∀ j x, r.cells[j]? = some x → w.cell? ((a.add (i * 2)).add j) = some x := by
 have hl := h.len
 have hx : l[i]? = some (l[i]'(by omega)) := List.getElem?_eq_getElem (by omega)
 obtain ⟨a, ha, hc⟩ := h.get i _ hx
 exact ⟨a, _, ha, hx, h.ok _ (List.mem_of_getElem? hx), hc⟩
/-- the bounds of a table -/
structure BdD where
 lo : Int
 hi : Int
def BdD.cells (b : BdD) : List Value := [.int .i64 b.lo, .int .i64 b.hi]
/-- a slice that reads as a list of bounds -/
structure SchOn (w : World) (q : Option Addr) (n c : Nat) (l : List BdD) : Prop where
 len : l.length = n
 le : n ≤ c
 cap : c ≤ maxLen
 get : ∀ i r, l[i]? = some r → ∃ a, q = some a ∧ ∀ j x, r.cells[j]? = some x → w.cell? ((a.add (i * 2)).add j) = some x
 ok : ∀ r ∈ l, I64 r.lo ∧ I64 r.hi
theorem SchOn.none_ (w : World) : SchOn w none 0 0 [] := ⟨rfl, Nat.le_refl _, Nat.zero_le _, fun i r h => by simp at h, fun r h => by cases h⟩
theorem SchOn.below {B : Nat} {w w' : World} {q : Option Addr} {n c : Nat} {l : List BdD} (h : SchOn w q n c l) (hb : Below B w w') (hB : w.heap.size ≤ B) : SchOn w' q n c l :=
 ⟨h.len, h.le, h.cap, fun i r hi => by
  obtain ⟨a, rfl, hc⟩ := h.get i r hi
  exact ⟨a, rfl, fun j x hj => cell_keeps hb hB (hc j x hj)⟩, h.ok⟩
theorem SchOn.at {w : World} {q : Option Addr} {n c : Nat} {l : List BdD} (h : SchOn w q n c l) {i : Nat} (hi : i < n) :
 ∃ a r, q = some a ∧ l[i]? = some r ∧ (I64 r.lo ∧ I64 r.hi) ∧ ∀ j x, r.cells[j]? = some x → w.cell? ((a.add (i * 2)).add j) = some x := by
 have hl := h.len
 have hx : l[i]? = some (l[i]'(by omega)) := List.getElem?_eq_getElem (by omega)
 obtain ⟨a, ha, hc⟩ := h.get i _ hx
 exact ⟨a, _, ha, hx, h.ok _ (List.mem_of_getElem? hx), hc⟩
/-- The slice v holds just these rows, in a block of its own from block base on. -/
def OwnR (T : TypeId) (w : World) (base : Nat) (v : Value) (l : List RowD) : Prop := w.ownsRow base T 4 v l.length (cellsR l)
theorem OwnR.nil (T : TypeId) (w : World) (base : Nat) : OwnR T w base (.slice none 0 0) [] := World.ownsRow_nil w base T 4
theorem OwnR.shape {T : TypeId} {w : World} {base : Nat} {v : Value} {l : List RowD} (h : OwnR T w base v l) : ∃ q c, v = .slice q l.length c := by
 obtain ⟨_, ⟨he, h0⟩ | ⟨g, cap, cur, he, _⟩⟩ := h
 · exact ⟨none, 0, by rw [he, h0]⟩
 · exact ⟨_, _, he⟩
theorem OwnR.len {T : TypeId} {w : World} {base : Nat} {q : Option Addr} {n c : Nat} {l : List RowD} (h : OwnR T w base (.slice q n c) l) : n = l.length := by
 obtain ⟨q', c', e⟩ := h.shape
 injection e
theorem OwnR.far {T : TypeId} {w : World} {base : Nat} {q : Option Addr} {n c : Nat} {l : List RowD} (h : OwnR T w base (.slice q n c) l) : ∀ a, q = some a → base ≤ a.block ∧ a.block < w.heap.size := by
 intro a ha
 obtain ⟨_, ⟨he, _⟩ | ⟨g, cap, cur, he, hg, hh, _⟩⟩ := h
 · simp only [Value.slice.injEq] at he; obtain ⟨rfl, _⟩ := he; cases ha
 · simp only [Value.slice.injEq] at he; obtain ⟨rfl, _⟩ := he; cases ha; exact ⟨hg, (Array.getElem?_eq_some_iff.1 hh).1⟩
theorem OwnR.kept {T : TypeId} {w w' : World} {base : Nat} {q : Option Addr} {n c : Nat} {l : List RowD} (h : OwnR T w base (.slice q n c) l) (hb : ∀ a, q = some a → w'.heap[a.block]? = w.heap[a.block]?) : OwnR T w' base (.slice q n c) l := by
 obtain ⟨hlen, ⟨he, h0⟩ | ⟨g, cap, cur, he, hg, hh, r⟩⟩ := h
 · exact ⟨hlen, .inl ⟨he, h0⟩⟩
 · simp only [Value.slice.injEq] at he
   obtain ⟨rfl, e2, rfl⟩ := he
   exact ⟨hlen, .inr ⟨g, c, cur, by rw [e2], hg, by rw [hb _ rfl]; exact hh, r⟩⟩
theorem OwnR.below {T : TypeId} {w w' : World} {base : Nat} {q : Option Addr} {n c : Nat} {l : List RowD} (h : OwnR T w base (.slice q n c) l) (hb : Below w.heap.size w w') : OwnR T w' base (.slice q n c) l :=
 h.kept fun a ha => hb.block _ (h.far a ha).2
theorem OwnR.mono {T : TypeId} {w : World} {b b' : Nat} {v : Value} {l : List RowD} (h : OwnR T w b v l) (hb : b' ≤ b) : OwnR T w b' v l := by
 obtain ⟨hlen, hr | ⟨g, cap, cur, he, hg, r⟩⟩ := h
 · exact ⟨hlen, .inl hr⟩
 · exact ⟨hlen, .inr ⟨g, cap, cur, he, Nat.le_trans hb hg, r⟩⟩
/-- what is owned reads as a list of rows -/
theorem OwnR.reads {T : TypeId} {w : World} {base : Nat} {q : Option Addr} {n c : Nat} {l : List RowD} (h : OwnR T w base (.slice q n c) l) (hok : ∀ r ∈ l, RowOk r) : RowsOn w q n c l := by
 have hl := h.len
 have hc := fun g hg => World.ownsRow.cells (h := h) (g := g) hg
 obtain ⟨hlen, ⟨he, h0⟩ | ⟨g, cap, cur, he, hg, hh, hle, hm, r⟩⟩ := h
 · simp only [Value.slice.injEq] at he
   obtain ⟨rfl, rfl, rfl⟩ := he
   exact ⟨hl.symm, Nat.le_refl _, Nat.zero_le _, fun _ => rfl, fun i r hi => by rw [List.eq_nil_of_length_eq_zero hl.symm] at hi; simp at hi, hok⟩
 · simp only [Value.slice.injEq] at he
   obtain ⟨rfl, e2, rfl⟩ := he
   refine ⟨hl.symm, by omega, hm, (fun e => by cases e), fun i r hi => ⟨_, rfl, fun j x hj => ?_⟩, hok⟩
   rw [Go.Deep.add_add]
   exact hc g rfl _ _ (cellsR_get l i r hi j x hj)
theorem splice_all (cs vs : List Value) (h : cs.length = vs.length) : splice cs 0 vs = vs := by
 unfold splice
 simp [← h]
end Go.Proofs.YtocekhckmpkbmaaGreat
namespace Go.Proofs.YtocekhckmpkbmaaGreat
open Go.RowKit
section
variable {P : Program} {ops : Array Oper} {Q : Exit → Act → World → Prop} {md : Region.Mode} {S : World → Prop}
/-- the one operation that may come up -/
theorem held_one {i : Nat} {o : Oper} {fuel : Nat} {listed : Array Bool} {a : Act} {w : World} (hi : ops[i]? = some o) (hr : Region.ready md ops listed = [i]) (hw : Region.wanted o (yielded ops a.tmps) = true)
 (h : o.wp P a w (fun a' w' => S w' ∧ wpAnyH P md ops Q S fuel (listed.setIfInBounds i true) a' w') Q) : wpAnyH P md ops Q S (fuel + 1) listed a w := by
 refine wpAnyH_all hr (by simp) (fun j hj => ?_)
 rw [List.mem_singleton.1 hj]
 unfold wpOp
 simp only [hi, hw, if_true]
 exact .inl h
/-- it is a call that returns -/
theorem held_call {i : Nat} {o : Oper} {dst : Option Tmp} (hd : o.dst = dst) {fuel : Nat} {listed : Array Bool} {a : Act} {w : World} {f : FuncId} {args : Array Value} {R : Ending → World → Prop} (hi : ops[i]? = some o) (hr : Region.ready md ops listed = [i]) (hw : Region.wanted o (yielded ops a.tmps) = true)
 (hrun : (execOp a.eval o).run P w = .ok (.enter f args) w) (hc : Calls P f args w R) (h : ∀ e w', R e w' → ∃ v, e = .returned v ∧ S w' ∧ wpAnyH P md ops Q S fuel (listed.setIfInBounds i true) (a.put dst v) w') :
 wpAnyH P md ops Q S (fuel + 1) listed a w := by
 subst hd
 refine held_one hi hr hw ?_
 unfold Oper.wp
 rw [hrun, Oper.upon_enter]
 refine hc.mono fun e w' he => ?_
 obtain ⟨v, rfl, h1, h2⟩ := h e w' he
 exact ⟨h1, h2⟩
/-- it gives a value -/
theorem held_value {i : Nat} {o : Oper} {dst : Option Tmp} (hd : o.dst = dst) {fuel : Nat} {listed : Array Bool} {a : Act} {w w' : World} {v : Value} (hi : ops[i]? = some o) (hr : Region.ready md ops listed = [i]) (hw : Region.wanted o (yielded ops a.tmps) = true)
 (hrun : (execOp a.eval o).run P w = .ok (.value v) w') (hS : S w') (h : wpAnyH P md ops Q S fuel (listed.setIfInBounds i true) (a.put dst v) w') : wpAnyH P md ops Q S (fuel + 1) listed a w := by
 subst hd
 refine held_one hi hr hw ?_
 unfold Oper.wp
 rw [hrun, Oper.upon_value]
 exact ⟨hS, h⟩
/-- it gives nothing -/
theorem held_skip {i : Nat} {o : Oper} {dst : Option Tmp} (hd : o.dst = dst) {fuel : Nat} {listed : Array Bool} {a : Act} {w w' : World} (hi : ops[i]? = some o) (hr : Region.ready md ops listed = [i]) (hw : Region.wanted o (yielded ops a.tmps) = true)
 (hrun : (execOp a.eval o).run P w = .ok .skip w') (hS : S w') (h : wpAnyH P md ops Q S fuel (listed.setIfInBounds i true) (a.put dst undef) w') : wpAnyH P md ops Q S (fuel + 1) listed a w := by
 subst hd
 refine held_one hi hr hw ?_
 unfold Oper.wp
 rw [hrun, Oper.upon_skip]
 exact ⟨hS, h⟩
/-- it only reads, and is taken first -/
theorem held_take {i : Nat} {o : Oper} {dst : Option Tmp} (hd : o.dst = dst) {v : Value} {fuel : Nat} {listed : Array Bool} {a : Act} {w : World} (hi : ops[i]? = some o)
 (hs : Region.noSelect ops = true) (hf : Region.free md ops listed i = true) (hr : (Region.ready md ops listed).contains i = true)
 (hQ : ∀ c a w, Q (.panic c) (a.put o.dst v) w → Q (.panic c) a w) (hy : YieldsIf P ops S o v a) (hS : S w)
 (h : wpAnyH P md ops Q S fuel (listed.setIfInBounds i true) (a.put dst v) w) : wpAnyH P md ops Q S (fuel + 1) listed a w := by
 subst hd
 exact wpAnyH_take hi hs hf hr hQ hy hS h
end
section
variable {P : Program} {ops : Array Oper} {S : World → Prop} {a : Act} {o : Oper}
theorem y_move (x : Operand) (ho : o.op = .move x) (hw : Region.wanted o (yielded ops a.tmps) = true) {v : Value} (hx : a.eval x = v) : YieldsIf P ops S o v a := by
 refine .inl ⟨hw, fun w _ => ?_⟩
 subst hx
 unfold execOp
 simp [ho]
theorem y_load_agg (ty : TypeId) (x : Operand) (ho : o.op = .load ty x) (hw : Region.wanted o (yielded ops a.tmps) = true) {ad : Addr} (hx : a.eval x = .pointer (some ad)) {v : Value} (h : ∀ w, S w → (loadVar ty ad).run P w = .ok v w) : YieldsIf P ops S o v a := by
 refine .inl ⟨hw, fun w hS => ?_⟩
 unfold execOp
 simp only [ho, hx, Instr.loadAt, Instr.sureAddr, Sem.run_bind, Sem.run_pure, Result.andThen_ok, h w hS]
end
end Go.Proofs.YtocekhckmpkbmaaGreat
namespace Go.Proofs.YtocekhckmpkbmaaGreat
open Go.RowKit
def cmpI (a b : Int) : Int := if a < b then -1 else if b < a then 1 else 0
def orI (x y : Int) : Int := if x = 0 then y else x
def cmpK (a b : KeyD) : Int := orI (cmpI a.t b.t) (cmpI a.id b.id)
def eqK (a b : KeyD) : Bool := a.t == b.t && a.id == b.id
theorem cmpI_cases (a b : Int) : (a < b ∧ cmpI a b = -1) ∨ (b < a ∧ cmpI a b = 1) ∨ (a = b ∧ cmpI a b = 0) := by
 unfold cmpI
 by_cases h1 : a < b
 · exact .inl ⟨h1, if_pos h1⟩
 · by_cases h2 : b < a
   · exact .inr (.inl ⟨h2, by rw [if_neg h1, if_pos h2]⟩)
   · exact .inr (.inr ⟨by omega, by rw [if_neg h1, if_neg h2]⟩)
set_option maxRecDepth 100000 in
theorem nan_int (x : Int) (w : World) : Calls Tryz.prog 153 #[.int .i64 x] w (fun e w' => e = .returned (.bool false) ∧ w' = w) := by
 go_enter Tryz.func153, Tryz.ntmps153
 go_wp2
 go_ret
 exact ⟨by simp, rfl⟩
set_option maxRecDepth 100000 in
theorem nan_u16 (x : Int) (w : World) : Calls Tryz.prog 154 #[.int .u16 x] w (fun e w' => e = .returned (.bool false) ∧ w' = w) := by
 go_enter Tryz.func154, Tryz.ntmps154
 go_wp2
 go_ret
 exact ⟨by simp, rfl⟩
theorem ret_i {a b : Int} {k : IntKind} (h : a = b) : Ending.returned (.int k a) = .returned (.int k b) := by rw [h]
set_option maxRecDepth 100000 in
theorem cmp_int (x y : Int) (w : World) : Calls Tryz.prog 142 #[.int .i64 x, .int .i64 y] w (fun e w' => e = .returned (.int .i64 (cmpI x y)) ∧ w' = w) := by
 rcases cmpI_cases x y with ⟨h, e⟩ | ⟨h, e⟩ | ⟨h, e⟩
 all_goals
  rw [e]
  clear e
 · go_enter Tryz.func142, Tryz.ntmps142
   go_wp2_with (go_at_call 153; refine (nan_int _ _).mono ?_; rintro e w' ⟨rfl, hw⟩; obtain rfl := hw.symm)
   go_ret
   exact ⟨rfl, rfl⟩
 · have h2 : ¬ x < y := by omega
   go_enter Tryz.func142, Tryz.ntmps142
   go_wp2_with (go_at_call 153; refine (nan_int _ _).mono ?_; rintro e w' ⟨rfl, hw⟩; obtain rfl := hw.symm)
   go_ret
   exact ⟨rfl, rfl⟩
 · subst h
   go_enter Tryz.func142, Tryz.ntmps142
   go_wp2_with (go_at_call 153; refine (nan_int _ _).mono ?_; rintro e w' ⟨rfl, hw⟩; obtain rfl := hw.symm)
   go_ret
   exact ⟨rfl, rfl⟩
set_option maxRecDepth 100000 in
theorem cmp_u16 (x y : Int) (w : World) : Calls Tryz.prog 143 #[.int .u16 x, .int .u16 y] w (fun e w' => e = .returned (.int .i64 (cmpI x y)) ∧ w' = w) := by
 rcases cmpI_cases x y with ⟨h, e⟩ | ⟨h, e⟩ | ⟨h, e⟩
 all_goals
  rw [e]
  clear e
 · go_enter Tryz.func143, Tryz.ntmps143
   go_wp2_with (go_at_call 154; refine (nan_u16 _ _).mono ?_; rintro e w' ⟨rfl, hw⟩; obtain rfl := hw.symm)
   go_ret
   exact ⟨rfl, rfl⟩
 · have h2 : ¬ x < y := by omega
   go_enter Tryz.func143, Tryz.ntmps143
   go_wp2_with (go_at_call 154; refine (nan_u16 _ _).mono ?_; rintro e w' ⟨rfl, hw⟩; obtain rfl := hw.symm)
   go_ret
   exact ⟨rfl, rfl⟩
 · subst h
   go_enter Tryz.func143, Tryz.ntmps143
   go_wp2_with (go_at_call 154; refine (nan_u16 _ _).mono ?_; rintro e w' ⟨rfl, hw⟩; obtain rfl := hw.symm)
   go_ret
   exact ⟨rfl, rfl⟩
set_option maxRecDepth 100000 in
set_option maxHeartbeats 1000000 in
theorem or2 (x y : Int) (g : Nat) (w : World) (h0 : w.cell? ⟨g, 0, none⟩ = some (.int .i64 x)) (h1 : w.cell? ⟨g, 1, none⟩ = some (.int .i64 y)) :
 Calls Tryz.prog 141 #[.slice (some ⟨g, 0, none⟩) 2 2] w (fun e w' => e = .returned (.int .i64 (orI x y)) ∧ w' = w) := by
 go_enter Tryz.func141, Tryz.ntmps141
 go_wp2
 go_loop [8] (fun v8 => ∃ k : Nat, k ≤ 2 ∧ v8 = .int .i64 k ∧ (0 < k → x = 0) ∧ (1 < k → y = 0)) (fun v8 => 2 - (intOf v8).toNat)
 case atStart => exact ⟨0, by omega, rfl, (fun h => by omega), (fun h => by omega)⟩
 case round =>
  obtain ⟨k, hk, rfl, hx, hy⟩ := hrel
  match k, hk with
  | 0, _ =>
    by_cases hz : x = 0
    · subst hz
      go_wp2
      go_round
      case rel => exact ⟨1, by omega, by go_num, by simp, by simp⟩
      case measure => simp [intOf]
    · go_wp2
      go_ret
      exact ⟨ret_i (by simp [orI, *]), rfl⟩
  | 1, _ =>
    have hx0 := hx (by omega)
    subst hx0
    by_cases hz : y = 0
    · subst hz
      go_wp2
      go_round
      case rel => exact ⟨2, by omega, by go_num, by simp, by simp⟩
      case measure => simp [intOf]
    · go_wp2
      go_ret
      exact ⟨ret_i (by simp [orI, *]), rfl⟩
  | 2, _ =>
    have hx0 := hx (by omega)
    have hy0 := hy (by omega)
    subst hx0
    subst hy0
    go_wp2
    go_ret
    exact ⟨ret_i (by simp [orI]), rfl⟩
set_option maxRecDepth 100000 in
set_option maxHeartbeats 1000000 in
theorem compare_any (a b : KeyD) (w : World) : Calls Tryz.prog 129 #[.agg #[.int .i64 a.t, .int .u16 a.id], .agg #[.int .i64 b.t, .int .u16 b.id]] w (fun e w' => e = .returned (.int .i64 (cmpK a b)) ∧ Below w.heap.size w w') := by
 obtain ⟨at_, ai⟩ := a
 obtain ⟨bt, bi⟩ := b
 show Calls _ _ _ _ (fun e w' => e = .returned (.int .i64 (orI (cmpI at_ bt) (cmpI ai bi))) ∧ Below w.heap.size w w')
 go_enter Tryz.func129, Tryz.ntmps129
 go_wp2
 go_still_tail 10, (by kernel_rfl)
 change wpStill _ _ (World.drew _) (fun a' => wpList _ _ _ _ a' (World.drew _)) _ _
 repeat still_step
 still_call (cmp_int at_ bt _)
 repeat still_step
 still_call (cmp_u16 ai bi _)
 repeat still_step
 refine wpStill_nil ?_
 go_wp2_with fail
 refine (or2 (cmpI at_ bt) (cmpI ai bi) (w.heap.size + 1 + 1) _ (by go_simp) (by go_simp)).mono ?_
 rintro e w' ⟨rfl, hw⟩
 obtain rfl := hw.symm
 go_wp2
 go_ret
 refine ⟨rfl, ?_⟩
 go_grown
end Go.Proofs.YtocekhckmpkbmaaGreat
namespace Go.Proofs.YtocekhckmpkbmaaGreat
open Go.RowKit
theorem sizeRow (t id v : Int) (s : ByteArray) : (Tryz.prog.info? 68).map (·.size) = some [Value.int .i64 t, Value.int .u16 id, Value.int .i64 v, Value.string s].length := by kernel_rfl
theorem sizeKey (t id : Int) : (Tryz.prog.info? 66).map (·.size) = some [Value.int .i64 t, Value.int .u16 id].length := by kernel_rfl
end Go.Proofs.YtocekhckmpkbmaaGreat
