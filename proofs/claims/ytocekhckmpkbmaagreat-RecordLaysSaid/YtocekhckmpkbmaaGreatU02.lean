/- Parts of the proof: The contract of the closure in number: it reckons the number that stands in its bytes; The contracts of number and Raw, way by way; A reader by what it has ahead and what it is stuck with: number and Raw in one contract each; The contracts of U8, U16, U32, U64, Left, Err and Read; A slice of bytes that the call itself made: append, and the parts of a slice, as laws for the walk -/
import Derived.Test.YtocekhckmpkbmaaGreatU01
import Derived.Deep.AppendSrc
namespace Go.Proofs.YtocekhckmpkbmaaGreat
open Go.RowKit
def num (l : List UInt8) : Nat := l.foldl (fun a b => a * 256 + b.toNat) 0
theorem num_snoc (l : List UInt8) (b : UInt8) : num (l ++ [b]) = num l * 256 + b.toNat := by simp [num]
theorem num_go_lt : ∀ (l : List UInt8) (a : Nat), l.foldl (fun a b => a * 256 + b.toNat) a < (a + 1) * 256 ^ l.length
 | [], a => by simp
 | b :: l, a => by have h := num_go_lt l (a * 256 + b.toNat); have hb := b.toNat_lt; rw [List.foldl_cons, List.length_cons, Nat.pow_succ]; refine Nat.lt_of_lt_of_le h ?_; rw [Nat.mul_comm (256 ^ l.length) 256, ← Nat.mul_assoc]; exact Nat.mul_le_mul_right _ (by omega)
theorem num_lt (l : List UInt8) : num l < 256 ^ l.length := by
 have h := num_go_lt l 0; simpa [num] using h
/-- the call's own variables: the width, the number so far -/
structure NumRel (w wr : World) (bk bx : Nat) (k i : Nat) (l : List UInt8) : Prop where
 grown : w.grownBy wr (some bx)
 size : wr.heap.size = w.heap.size
 var : wr.heap[bx]? = some (.cells #[.int .u64 (num (l.take i) : Int)] 24 (0, 0))
theorem or_digit (x : Nat) (b : UInt8) (h : x * 256 + b.toNat < 18446744073709551616) :
 bits .or .u64 (IntKind.u64.wrap ((x : Int) * 256)) (IntKind.u64.wrap (b.toNat : Int)) = ((x * 256 + b.toNat : Nat) : Int) := by
 have hb := b.toNat_lt; have e1 : IntKind.u64.wrap ((x : Int) * 256) = ((x * 256 : Nat) : Int) := by rw [IntWalk.u64_in _ (by omega)]; omega
 have e2 : IntKind.u64.wrap (b.toNat : Int) = ((b.toNat : Nat) : Int) := IntWalk.u64_in _ (by omega); rw [e1, e2, u64_or_nat (x * 256) b.toNat (Nat.lt_of_le_of_lt (Nat.le_add_right _ _) h) (Nat.lt_of_le_of_lt (Nat.le_add_left _ _) h)]; congr 1; have h2 := Nat.shiftLeft_add_eq_or_of_lt (i := 8) (b := b.toNat) hb x; rw [Nat.shiftLeft_eq, show (2 : Nat) ^ 8 = 256 from rfl] at h2; exact h2.symm
theorem NumRel.step {w wr : World} {bk bx k i n : Nat} {l : List UInt8} {b : UInt8} (h : NumRel w wr bk bx k i l) (hb : l[i]? = some b) (hl : l.length = n) (hn : n ≤ 8) :
 NumRel w (wr.setCell ⟨bx, 0, none⟩ (.int .u64 (bits .or .u64 (IntKind.u64.wrap ((num (l.take i) : Int) * 256)) (IntKind.u64.wrap (b.toNat : Int))))).drew bk bx k (i + 1) l := by
 have hi : i < l.length := (List.getElem?_eq_some_iff.1 hb).1
 have e : l.take (i + 1) = l.take i ++ [b] := by rw [List.take_add_one, hb]; rfl
 have hlt := num_lt (l.take (i + 1)); have hp : 256 ^ (l.take (i + 1)).length ≤ 256 ^ 8 := Nat.pow_le_pow_right (by omega) (by rw [List.length_take]; omega); rw [e, num_snoc] at hlt
 rw [or_digit _ _ (by rw [e] at hp; have h8 : (256 : Nat) ^ 8 = 18446744073709551616 := by decide
                      omega)]
 refine ⟨⟨h.grown.os, h.grown.tape, h.grown.output, ?_, ?_⟩, ?_, ?_⟩
 · have := h.size; simp [World.setCell, World.drew]; omega
 · intro k hk hne; show (wr.setCell _ _).heap[k]? = _; rw [Below.heap_setCell _ _ _ _ (fun h' => hne (by rw [h']))]; exact h.grown.block k hk hne
 · show (wr.setCell _ _).heap.size = _; simp [World.setCell, h.size]
 · show (wr.setCell _ _).heap[bx]? = _; rw [one_setCell h.var, e, num_snoc]
theorem NumRel.old {w wr : World} {bk bx k i n c : Nat} {l : List UInt8} {q : Option Addr} (h : NumRel w wr bk bx k i l) (hv : Lib.HoldsBytes w (.slice q n c) l) (hq : ∀ a, q = some a → a.block ≠ bx) (hi : i < n) :
 ∃ a b, q = some a ∧ l[i]? = some b ∧ wr.cell? (a.add i) = some (.int .u8 (b.toNat : Int)) := by
 obtain ⟨p, cap, he, h1, h2⟩ := hv; cases he; cases q with
 | none => have := h1 rfl; subst this; simp at hi
 | some a =>
   have hx := List.getElem?_eq_getElem hi; have hc := h2 a rfl i _ hx; refine ⟨a, _, rfl, hx, ?_⟩; have hbl : (a.add i).block = a.block := by unfold Addr.add; split <;> rfl
   rw [World.cell?_of_block (h.grown.block _ (World.block_lt_of_cell? w _ hc) (by rw [hbl]; intro e; exact hq a rfl (by simpa using e)))]; exact hc
set_option maxHeartbeats 400000 in
theorem number1 (q : Option Addr) (n c bk bx : Nat) (l : List UInt8) (w : World) (hv : Lib.HoldsBytes w (.slice q n c) l) (hn : n ≤ 8)
 (hq : ∀ a, q = some a → a.block ≠ bx) (hk : w.heap[bk]? = some (.cells #[.int .i64 n] 3 (0, 0))) (hx : w.heap[bx]? = some (.cells #[.int .u64 0] 24 (0, 0))) :
 Calls Tryz.prog 119 #[.slice q n c, .pointer (some ⟨bk, 0, none⟩), .pointer (some ⟨bx, 0, none⟩)] w (fun e w' => e = .returned (.tuple #[]) ∧ NumRel w w' bk bx n n l) := by
 have hl1 : Hid (l.length = n) := by obtain ⟨_, _, he, _⟩ := hv; cases he; exact rfl
 have hv1 := lh hv; have hk1 := lh hk; have hx1 := lh hx; have hq1 := lh hq; have ck := cell_of_one hk; clear hv hk hx hq
 go_enter Tryz.func119, Tryz.ntmps119
 go_wp2
 go_loopw [6] (fun v6 wr => ∃ i : Nat, i ≤ n ∧ v6 = .int .i64 i ∧ NumRel w wr bk bx n i l) (fun v6 _ => n - (intOf v6).toNat)
 case atStart => exact ⟨0, Nat.zero_le _, rfl, ⟨⟨rfl, rfl, rfl, Nat.le_refl _, fun _ _ _ => rfl⟩, rfl, hx1.out⟩⟩
 case round =>
  obtain ⟨i, hi, rfl, hr⟩ := hrel; have cx := cell_of_one hr.var; have fx := free_of_one hr.var
  by_cases hlt : i < n
  · obtain ⟨a, b, rfl, hb, hcb⟩ : ∃ a b, q = some a ∧ l[i]? = some b ∧ wr.cell? (a.add i) = some (.int .u8 (b.toNat : Int)) := by
     exact hr.old hv1.out hq1.out hlt
    have hnext := lh (hr.step hb hl1.out hn); clear hb; go_wp2
    go_region
    go_wp2
    go_roundw
    case rel => exact ⟨i + 1, by omega, by go_num, hnext.out⟩
    case measure => simp [intOf]; omega
  · obtain rfl : i = n := by omega
    go_wp2; go_end0; exact ⟨rfl, hr⟩
end Go.Proofs.YtocekhckmpkbmaaGreat
namespace Go.Proofs.YtocekhckmpkbmaaGreat
open Go.RowKit
/-- where a slice begins behind its first k elements -/
def tl (p : Option Addr) (c k : Nat) : Option Addr := if c = k then p else p.map (·.add k)
theorem add_zero (a : Addr) : a.add 0 = a := by cases a; unfold Addr.add; split <;> simp_all
set_option maxRecDepth 100000 in
theorem slice_head (p : Option Addr) (n c k : Nat) (hk : k ≤ n) (hn : n ≤ c) (u : World) :
 (Instr.slice 149 (.slice p n c) none (some (.int .i64 (k : Int))) none).run Tryz.prog u = .ok (.slice p k c) u := by
 have h := run_slice_h (P := Tryz.prog) u 149 p n c (by kernel_rfl) .i64 (k : Int) (by omega) (by omega); rw [h, show (sizeOf (Tryz.prog.elem 149)).run Tryz.prog u = .ok 1 u by kernel_rfl]; simp only [Result.andThen, sliced, Int.toNat_natCast, Nat.zero_mul, Nat.sub_zero]; congr 2
 split
 · rfl
 · cases p <;> simp [add_zero]
set_option maxRecDepth 100000 in
theorem slice_tail (p : Option Addr) (n c k : Nat) (hk : k ≤ n) (u : World) :
 (Instr.slice 149 (.slice p n c) (some (.int .i64 (k : Int))) none none).run Tryz.prog u = .ok (.slice (tl p c k) (n - k) (c - k)) u := by
 have h := run_slice_l (P := Tryz.prog) u 149 p n c (by kernel_rfl) .i64 (k : Int) (by omega) (by omega); rw [h, show (sizeOf (Tryz.prog.elem 149)).run Tryz.prog u = .ok 1 u by kernel_rfl]; simp only [Result.andThen, sliced, Int.toNat_natCast, Nat.mul_one]; rfl
/-- The reader's own two cells. -/
def RdrV (w : World) (g : Nat) (p : Option Addr) (n c : Nat) (err : Int) : Prop := w.heap[g]? = some (.cells #[.slice p n c, .int .i64 err] 151 (0, 0))
theorem RdrV.c0 {w : World} {g : Nat} {p : Option Addr} {n c : Nat} {err : Int} (h : RdrV w g p n c err) : w.cell? ⟨g, 0, none⟩ = some (.slice p n c) := by unfold RdrV at h; simp [World.cell?, h]
theorem RdrV.c1 {w : World} {g : Nat} {p : Option Addr} {n c : Nat} {err : Int} (h : RdrV w g p n c err) : w.cell? ⟨g, 1, none⟩ = some (.int .i64 err) := by unfold RdrV at h; simp [World.cell?, h]
theorem RdrV.fz {w : World} {g : Nat} {p : Option Addr} {n c : Nat} {err : Int} (h : RdrV w g p n c err) (o : Nat) : w.frozen? ⟨g, o, none⟩ = false := by unfold RdrV at h; simp [World.frozen?, h]
theorem RdrV.lt {w : World} {g : Nat} {p : Option Addr} {n c : Nat} {err : Int} (h : RdrV w g p n c err) : g < w.heap.size := (Array.getElem?_eq_some_iff.1 h).1
theorem RdrV.set0 {w : World} {g : Nat} {p q : Option Addr} {n c m d : Nat} {err : Int} (h : RdrV w g p n c err) : RdrV (w.setCell ⟨g, 0, none⟩ (.slice q m d)) g q m d err := by
 have hlt := h.lt; have hv : w.heap[g] = .cells #[.slice p n c, .int .i64 err] 151 (0, 0) := (Array.getElem?_eq_some_iff.1 h).2; show (w.heap.modify g _)[g]? = _; rw [Array.getElem?_eq_getElem (by simpa using hlt), Array.getElem_modify_self, hv]; rfl
theorem RdrV.set1 {w : World} {g : Nat} {p : Option Addr} {n c : Nat} {err e2 : Int} (h : RdrV w g p n c err) : RdrV (w.setCell ⟨g, 1, none⟩ (.int .i64 e2)) g p n c e2 := by
 have hlt := h.lt; have hv : w.heap[g] = .cells #[.slice p n c, .int .i64 err] 151 (0, 0) := (Array.getElem?_eq_some_iff.1 h).2; show (w.heap.modify g _)[g]? = _; rw [Array.getElem?_eq_getElem (by simpa using hlt), Array.getElem_modify_self, hv]; rfl
theorem RdrV.block {w w' : World} {g : Nat} {p : Option Addr} {n c : Nat} {err : Int} (h : RdrV w g p n c err) (hb : w'.heap[g]? = w.heap[g]?) : RdrV w' g p n c err := by
 unfold RdrV at *; rw [hb]; exact h
def NumPost (w : World) (g : Nat) (p : Option Addr) (n c k : Nat) (l : List UInt8) (e : Ending) (w' : World) : Prop :=
 e = .returned (.int .u64 (num (l.take k) : Int)) ∧ w.grownBy w' (some g) ∧ RdrV w' g (tl p c k) (n - k) (c - k) 0
theorem holds_take {w w' : World} {p : Option Addr} {n c k : Nat} {l : List UInt8} (h : Lib.HoldsBytes w (.slice p n c) l) (hb : Below w.heap.size w w') (hk : k ≤ n) : Lib.HoldsBytes w' (.slice p k c) (l.take k) := by
 obtain ⟨q, cap, he, h1, h2⟩ := h; cases he; refine ⟨p, c, ?_, fun hp => by rw [h1 hp]; simp, fun a ha i x hx => ?_⟩
 · rw [List.length_take, Nat.min_eq_left hk]
 · rw [List.getElem?_take] at hx
   split at hx
   · exact Lib.Below.cellOf hb (h2 a ha i x hx) (Nat.le_refl _)
   · cases hx
theorem num_old {w w1 : World} {A B : Obj} {k i : Nat} {l : List UInt8} (hr : NumRel ((w.alloc A).alloc B) w1 w.heap.size (w.heap.size + 1) k i l) (j : Nat) (hj : j < w.heap.size) : w1.heap[j]? = w.heap[j]? := by
 rw [hr.grown.block j (by simp; omega) (by simp; omega), heap_alloc_old _ _ (by simp; omega), heap_alloc_old _ _ hj]
theorem num_grown {w w1 : World} {A B : Obj} {k i g : Nat} {v : Value} {l : List UInt8} (hr : NumRel ((w.alloc A).alloc B) w1 w.heap.size (w.heap.size + 1) k i l) : w.grownBy (w1.setCell ⟨g, 0, none⟩ v) (some g) := by
 have hs := hr.size; have h1 := hr.grown; refine ⟨h1.os, h1.tape, h1.output, by simp [World.setCell] at hs ⊢; omega, fun j hj hne => ?_⟩; rw [Below.heap_setCell _ _ _ _ (fun e => hne (by rw [e]))]; exact num_old hr j hj
set_option maxRecDepth 100000 in
set_option maxHeartbeats 400000 in
theorem number_ok (g n c k : Nat) (p : Option Addr) (l : List UInt8) (w : World) (h : RdrV w g p n c 0) (hv : Lib.HoldsBytes w (.slice p n c) l) (hnc : n ≤ c)
 (hp : ∀ a, p = some a → a.block < w.heap.size) (hk : k ≤ n) (hk8 : k ≤ 8) :
 Calls Tryz.prog 101 #[.pointer (some ⟨g, 0, none⟩), .int .i64 k] w (NumPost w g p n c k l) := by
 have c0 := h.c0; have c1 := h.c1; have f0 := h.fz 0; have hg := h.lt; have s1 := slice_head p n c k hk hnc; have s2 := slice_tail p n c k hk; have hB := lh (((Below.refl w.heap.size w).alloc (Nat.le_refl _) (.cells #[.int .i64 k] 3)).alloc (by simp) (.cells #[.int .u64 0] 24)); have hv1 := lh (holds_take hv hB.out hk); have hp1 : Hid (∀ a, p = some a → a.block ≠ w.heap.size + 1) := fun a ha => by have := hp a ha; omega
 have h1 := lh h
 have hx2 : Hid (((w.alloc (.cells #[.int .i64 k] 3)).alloc (.cells #[.int .u64 0] 24)).heap[w.heap.size]? = some (.cells #[.int .i64 k] 3 (0, 0))) := by show _ = _; rw [heap_alloc_old _ _ (by simp), heap_alloc_new]
 have hx3 : Hid (((w.alloc (.cells #[.int .i64 k] 3)).alloc (.cells #[.int .u64 0] 24)).heap[w.heap.size + 1]? = some (.cells #[.int .u64 0] 24 (0, 0))) := by have := heap_alloc_new (w.alloc (.cells #[.int .i64 k] 3)) (.cells #[.int .u64 0] 24); rw [World.size_alloc] at this; exact this
 clear hv hp h
 go_enter Tryz.func101, Tryz.ntmps101
 go_wp2_with (first
  | (go_at_call 119
     refine (number1 p k c w.heap.size (w.heap.size + 1) (l.take k) _ hv1.out hk8 hp1.out hx2.out hx3.out).mono ?_; rintro e w1 ⟨rfl, hr⟩; have hr1 := h1.out.block (num_old hr g hg); have d0 := hr1.c0; have d1 := hr1.fz 0; have d2 := cell_of_one hr.var; have hr2 := lh hr; have hr3 := lh hr1
     clear hr hr1)
  | go_in)
 all_goals
  go_ret; refine ⟨?_, num_grown hr2.out, hr3.out.set0⟩; exact congrArg (fun x : List UInt8 => Ending.returned (.int .u64 (num x : Int))) (by rw [List.take_take, Nat.min_self])
set_option maxRecDepth 100000 in
set_option maxHeartbeats 400000 in
theorem number_stuck (g n c : Nat) (k err : Int) (p : Option Addr) (w : World) (h : RdrV w g p n c err) (he : err ≠ 0) :
 Calls Tryz.prog 101 #[.pointer (some ⟨g, 0, none⟩), .int .i64 k] w (fun e w' => e = .returned (.int .u64 0) ∧ Below w.heap.size w w') := by
 have c1 := h.c1; have hg := h.lt; have he1 : (err == 0) = false := by simpa using he
 have he2 : (err != 0) = true := by simpa using he
 clear h
 go_enter Tryz.func101, Tryz.ntmps101
 go_wp2; go_ret; exact ⟨rfl, ((Below.refl _ _).alloc (Nat.le_refl _) _).alloc (by simp) _⟩
theorem set_grown {w : World} {g o : Nat} {v : Value} : w.grownBy (w.setCell ⟨g, o, none⟩ v) (some g) :=
 ⟨rfl, rfl, rfl, by simp [World.setCell], fun j _ hne => Below.heap_setCell _ _ _ _ (fun e => hne (by rw [e]))⟩
theorem grown_alloc {w w1 : World} {g : Nat} (h : w.grownBy w1 (some g)) (A : Obj) : w.grownBy (w1.alloc A) (some g) :=
 ⟨h.os, h.tape, h.output, by have := h.size; simp; omega, fun j hj hne => by rw [heap_alloc_old _ _ (by have := h.size; omega)]; exact h.block j hj hne⟩
theorem RdrV.alloc {w : World} {g : Nat} {p : Option Addr} {n c : Nat} {err : Int} (h : RdrV w g p n c err) (A : Obj) : RdrV (w.alloc A) g p n c err := h.block (heap_alloc_old _ _ h.lt)
set_option maxRecDepth 100000 in
set_option maxHeartbeats 400000 in
theorem number_short (g n c k : Nat) (p : Option Addr) (w : World) (h : RdrV w g p n c 0) (hk : n < k) :
 Calls Tryz.prog 101 #[.pointer (some ⟨g, 0, none⟩), .int .i64 k] w (fun e w' => e = .returned (.int .u64 0) ∧ w.grownBy w' (some g) ∧ RdrV w' g p n c 7) := by
 have c0 := h.c0; have c1 := h.c1; have f1 := h.fz 1; have hg := h.lt; have h1 := lh h; clear h
 go_enter Tryz.func101, Tryz.ntmps101
 go_wp2; go_ret; exact ⟨rfl, grown_alloc (grown_alloc set_grown _) _, (h1.out.set1.alloc _).alloc _⟩
set_option maxRecDepth 100000 in
set_option maxHeartbeats 400000 in
theorem raw_stuck (g n c : Nat) (k err : Int) (p : Option Addr) (w : World) (h : RdrV w g p n c err) (he : err ≠ 0) :
 Calls Tryz.prog 147 #[.pointer (some ⟨g, 0, none⟩), .int .i64 k] w (fun e w' => e = .returned (.slice none 0 0) ∧ Below w.heap.size w w') := by
 have c1 := h.c1; have hg := h.lt; have he1 : (err == 0) = false := by simpa using he
 have he2 : (err != 0) = true := by simpa using he
 clear h
 go_enter Tryz.func147, Tryz.ntmps147
 go_wp2; go_ret; exact ⟨rfl, (Below.refl _ _).alloc (Nat.le_refl _) _⟩
set_option maxRecDepth 100000 in
set_option maxHeartbeats 400000 in
theorem raw_short (g n c : Nat) (k : Int) (p : Option Addr) (w : World) (h : RdrV w g p n c 0) (hk : (n : Int) < k) :
 Calls Tryz.prog 147 #[.pointer (some ⟨g, 0, none⟩), .int .i64 k] w (fun e w' => e = .returned (.slice none 0 0) ∧ w.grownBy w' (some g) ∧ RdrV w' g p n c 7) := by
 have c0 := h.c0; have c1 := h.c1; have f1 := h.fz 1; have hg := h.lt; have h1 := lh h; clear h
 go_enter Tryz.func147, Tryz.ntmps147
 go_wp2; go_ret; exact ⟨rfl, grown_alloc set_grown _, h1.out.set1.alloc _⟩
set_option maxRecDepth 100000 in
set_option maxHeartbeats 400000 in
theorem raw_neg (g n c : Nat) (k : Int) (p : Option Addr) (w : World) (h : RdrV w g p n c 0) (hk : k < 0) :
 Calls Tryz.prog 147 #[.pointer (some ⟨g, 0, none⟩), .int .i64 k] w (fun e w' => e = .returned (.slice none 0 0) ∧ w.grownBy w' (some g) ∧ RdrV w' g p n c 2) := by
 have c0 := h.c0; have c1 := h.c1; have f1 := h.fz 1; have hg := h.lt; have h1 := lh h; clear h
 go_enter Tryz.func147, Tryz.ntmps147
 go_wp2; go_ret; exact ⟨rfl, grown_alloc set_grown _, h1.out.set1.alloc _⟩
def RawPost (w : World) (g : Nat) (p : Option Addr) (n c k : Nat) (l : List UInt8) (e : Ending) (w' : World) : Prop :=
 ∃ q c', e = .returned (.slice q k c') ∧ New w.heap.size w' (.slice q k c') (l.take k) ∧ w.grownBy w' (some g) ∧ RdrV w' g (tl p c k) (n - k) (c - k) 0
theorem raw_old {w w1 : World} {A : Obj} (hb : Below (w.alloc A).heap.size (w.alloc A) w1) (j : Nat) (hj : j < w.heap.size) : w1.heap[j]? = w.heap[j]? := by
 rw [hb.block j (by simp; omega), heap_alloc_old _ _ hj]
theorem raw_box {w w1 : World} {A : Obj} (hb : Below (w.alloc A).heap.size (w.alloc A) w1) : w1.heap[w.heap.size]? = some A := by
 rw [hb.block _ (by simp), heap_alloc_new]
theorem holds_block {w w' : World} {v : Value} {l : List UInt8} (h : Lib.HoldsBytes w v l) (hb : ∀ a n c, v = .slice (some a) n c → w'.heap[a.block]? = w.heap[a.block]?) : Lib.HoldsBytes w' v l := by
 obtain ⟨p, cap, rfl, h1, h2⟩ := h; refine ⟨p, cap, rfl, h1, fun a ha i x hx => ?_⟩; subst ha; have hbl : (a.add i).block = a.block := by unfold Addr.add; split <;> rfl
 rw [World.cell?_of_block (w := w) (by rw [hbl]; exact hb a _ _ rfl)]; exact h2 a rfl i x hx
theorem raw_shut {w w1 : World} {A : Obj} {g n c k c' : Nat} {p q : Option Addr} {l : List UInt8} (hb : Below (w.alloc A).heap.size (w.alloc A) w1) (hr : RdrV w1 g p n c 0) (hnew : New (w.alloc A).heap.size w1 (.slice q k c') (l.take k)) (hg : g < w.heap.size) :
 RawPost w g p n c k l (.returned (.slice q k c')) ((w1.setCell ⟨w.heap.size, 0, none⟩ (.slice q k c')).setCell ⟨g, 0, none⟩ (.slice (tl p c k) (n - k) (c - k))) := by
 have hs := hb.size; have hne : g ≠ w.heap.size := by omega
 refine ⟨q, c', rfl, ⟨holds_block hnew.1 ?_, fun a n c h => by have := hnew.2 a n c h; simp [World.setCell] at this ⊢; omega⟩, ⟨hb.os, hb.tape, hb.output, by simp [World.setCell] at hs ⊢; omega, fun j hj hj2 => ?_⟩, ?_⟩
 · intro a n' c'' h; have := hnew.2 a n' c'' h; simp at this; rw [Below.heap_setCell _ _ _ _ (by simp; omega), Below.heap_setCell _ _ _ _ (by simp; omega)]
 · rw [Below.heap_setCell _ _ _ _ (fun e => hj2 (by rw [e])), Below.heap_setCell _ _ _ _ (by simp; omega)]; exact raw_old hb j hj
 · exact (hr.block (Below.heap_setCell _ _ _ _ (by simpa using hne))).set0
set_option maxRecDepth 100000 in
set_option maxHeartbeats 400000 in
theorem raw_ok (g n c k : Nat) (p : Option Addr) (l : List UInt8) (w : World) (h : RdrV w g p n c 0) (hv : Lib.HoldsBytes w (.slice p n c) l) (hnc : n ≤ c)
 (hk : k ≤ n) (hk8 : k ≤ 140737488355328) :
 Calls Tryz.prog 147 #[.pointer (some ⟨g, 0, none⟩), .int .i64 k] w (RawPost w g p n c k l) := by
 have c0 := h.c0; have c1 := h.c1; have f0 := h.fz 0; have hg := h.lt; have s1 := slice_head p n c k hk hnc; have s2 := slice_tail p n c k hk; have hB := lh ((Below.refl w.heap.size w).alloc (Nat.le_refl _) (.cells #[.slice none 0 0] 36)); have hv1 := lh (holds_take hv hB.out hk); have h1 := lh h; have lens := lh (show l.length = n by obtain ⟨_, _, he, _⟩ := hv; cases he; rfl); clear hv h
 go_enter Tryz.func147, Tryz.ntmps147
 go_wp2_with (first
  | (go_at_call 100
     refine (clone p k c (l.take k) _ hv1.out hk8).mono ?_; rintro e w1 ⟨q, c', rfl, hnew, hb⟩; rw [List.length_take, lens.out, Nat.min_eq_left hk] at hnew ⊢; have hr1 := h1.out.block (raw_old hb g hg); have hbox := raw_box hb; have d0 := hr1.c0; have d1 := hr1.fz 0; have d2 := cell_of_one hbox; have d3 := free_of_one hbox; have hr2 := lh hb; have hr3 := lh hr1; have hr4 := lh hnew; have hgne : g ≠ w.heap.size := by omega
     clear hb hr1 hnew hbox)
  | go_in)
 all_goals
  go_ret; exact raw_shut hr2.out hr3.out hr4.out hg
end Go.Proofs.YtocekhckmpkbmaaGreat
namespace Go.Proofs.YtocekhckmpkbmaaGreat
open Go.RowKit
def gOk (k : Int) (l : List UInt8) (err : Int) : Bool := err == 0 && decide (0 ≤ k) && decide (k ≤ l.length)
def numV (k : Int) (l : List UInt8) (err : Int) : Int := if gOk k l err then num (l.take k.toNat) else 0
def nextL (k : Int) (l : List UInt8) (err : Int) : List UInt8 := if gOk k l err then l.drop k.toNat else l
def nextE (k : Int) (l : List UInt8) (err : Int) : Int := if gOk k l err then 0 else if err = 0 then (if k < 0 then 2 else 7) else err
def rawL (k : Int) (l : List UInt8) (err : Int) : List UInt8 := if gOk k l err then l.take k.toNat else []
/-- The reader at block g has the bytes l ahead, in block d if there is one, and is stuck with err (0: it is not). -/
def Rdr (w : World) (g : Nat) (d : Option Nat) (l : List UInt8) (err : Int) : Prop :=
 ∃ p n c, RdrV w g p n c err ∧ Lib.HoldsBytes w (.slice p n c) l ∧ n ≤ c ∧ n ≤ 140737488355328 ∧ p.map (·.block) = d ∧ d ≠ some g ∧ ∀ x, d = some x → x < w.heap.size
theorem holds_len {w : World} {p : Option Addr} {n c : Nat} {l : List UInt8} (h : Lib.HoldsBytes w (.slice p n c) l) : n = l.length := by
 obtain ⟨_, _, he, _⟩ := h; cases he; rfl
theorem Rdr.keep {w w' : World} {g h : Nat} {d : Option Nat} {l : List UInt8} {err : Int} (r : Rdr w g d l err) (hg : w.grownBy w' (some h)) (h1 : h ≠ g) (h2 : d ≠ some h) : Rdr w' g d l err := by
 obtain ⟨p, n, c, hr, hv, hnc, hn, hp, hd, hx⟩ := r; refine ⟨p, n, c, hr.block (hg.block g hr.lt (by simpa using fun e => h1 e.symm)), holds_block hv (fun a n c e => ?_), hnc, hn, hp, hd, fun x e => Nat.lt_of_lt_of_le (hx x e) hg.size⟩; cases e; have : d = some a.block := by rw [← hp]; rfl
 exact hg.block _ (hx _ this) (by simpa [this] using h2)
theorem Rdr.below {w w' : World} {g : Nat} {d : Option Nat} {l : List UInt8} {err : Int} (r : Rdr w g d l err) (hb : Below w.heap.size w w') : Rdr w' g d l err := by
 obtain ⟨p, n, c, hr, hv, hnc, hn, hp, hd, hx⟩ := r; exact ⟨p, n, c, hr.block (hb.block g hr.lt), holds_below hv hb (Nat.le_refl _), hnc, hn, hp, hd, fun x e => Nat.lt_of_lt_of_le (hx x e) hb.size⟩
theorem tl_block (p : Option Addr) (c k : Nat) : (tl p c k).map (·.block) = p.map (·.block) := by
 unfold tl
 split
 · rfl
 · cases p with
   | none => rfl
   | some a => simp only [Option.map_some]; congr 1; unfold Addr.add; split <;> rfl
theorem holds_drop {w : World} {p : Option Addr} {n c k : Nat} {l : List UInt8} (h : Lib.HoldsBytes w (.slice p n c) l) (hk : k ≤ n) (hnc : n ≤ c) : Lib.HoldsBytes w (.slice (tl p c k) (n - k) (c - k)) (l.drop k) := by
 obtain ⟨q, cap, he, h1, h2⟩ := h; cases he; refine ⟨tl p c k, c - k, by rw [List.length_drop], fun hp => ?_, fun a ha i x hx => ?_⟩
 · unfold tl at hp
   split at hp
   · rw [h1 hp]; simp
   · cases p with
     | none => rw [h1 rfl]; simp
     | some a => cases hp
 · rw [List.getElem?_drop] at hx; have hi : k + i < l.length := (List.getElem?_eq_some_iff.1 hx).1; unfold tl at ha; rw [if_neg (by omega)] at ha; cases p with
   | none => cases ha
   | some b => cases ha; rw [Addr.add_add]; exact h2 b rfl (k + i) x hx
theorem Rdr.next {w w' : World} {g n c k : Nat} {d : Option Nat} {p : Option Addr} {l : List UInt8} (hr : RdrV w' g (tl p c k) (n - k) (c - k) 0) (hv : Lib.HoldsBytes w (.slice p n c) l) (hg : w.grownBy w' (some g)) (hnc : n ≤ c) (hn : n ≤ 140737488355328)
 (hp : p.map (·.block) = d) (hd : d ≠ some g) (hx : ∀ x, d = some x → x < w.heap.size) (hk : k ≤ n) : Rdr w' g d (l.drop k) 0 := by
 refine ⟨_, _, _, hr, ?_, by omega, by omega, by rw [tl_block, hp], hd, fun x e => Nat.lt_of_lt_of_le (hx x e) hg.size⟩; refine holds_block (holds_drop hv hk hnc) (fun a n' c' e => ?_)
 have : d = some a.block := by
  rw [← hp, ← tl_block p c k]
  injection e with e1
  rw [e1]; rfl
 exact hg.block _ (hx _ this) (by simpa [this] using hd)
theorem Rdr.same {w w' : World} {g n c : Nat} {d : Option Nat} {p : Option Addr} {l : List UInt8} {err : Int} (hr : RdrV w' g p n c err) (hv : Lib.HoldsBytes w (.slice p n c) l) (hg : w.grownBy w' (some g)) (hnc : n ≤ c) (hn : n ≤ 140737488355328)
 (hp : p.map (·.block) = d) (hd : d ≠ some g) (hx : ∀ x, d = some x → x < w.heap.size) : Rdr w' g d l err := by
 refine ⟨_, _, _, hr, ?_, hnc, hn, hp, hd, fun x e => Nat.lt_of_lt_of_le (hx x e) hg.size⟩; refine holds_block hv (fun a n c e => ?_)
 have : d = some a.block := by rw [← hp]; cases e; rfl
 exact hg.block _ (hx _ this) (by simpa [this] using hd)
def StepPost (v : Value) (w : World) (g : Nat) (d : Option Nat) (k : Int) (l : List UInt8) (err : Int) (e : Ending) (w' : World) : Prop :=
 e = .returned v ∧ w.grownBy w' (some g) ∧ Rdr w' g d (nextL k l err) (nextE k l err)
theorem number_any (g : Nat) (d : Option Nat) (k err : Int) (l : List UInt8) (w : World) (h : Rdr w g d l err) (hk0 : 0 ≤ k) (hk : k ≤ 8) :
 Calls Tryz.prog 101 #[.pointer (some ⟨g, 0, none⟩), .int .i64 k] w (StepPost (.int .u64 (numV k l err)) w g d k l err) := by
 obtain ⟨p, n, c, hr, hv, hnc, hn, hp, hd, hx⟩ := h; have hl := holds_len hv; obtain ⟨k, rfl⟩ : ∃ m : Nat, k = m := ⟨k.toNat, by omega⟩
 by_cases he : err = 0
 · subst he
   by_cases hkn : k ≤ n
   · have ok : gOk k l 0 = true := by simp [gOk]; omega
     refine (number_ok g n c k p l w hr hv hnc (fun a ha => hx _ (by rw [← hp, ha]; rfl)) hkn (by omega)).mono ?_; rintro e w' ⟨rfl, hg, hr'⟩; refine ⟨by simp [numV, ok], hg, ?_⟩; simp only [nextL, nextE, ok, if_true, Int.toNat_natCast]; exact Rdr.next hr' hv hg hnc hn hp hd hx hkn
   · have ok : gOk k l 0 = false := by simp [gOk]; omega
     refine (number_short g n c k p w hr (by omega)).mono ?_; rintro e w' ⟨rfl, hg, hr'⟩; refine ⟨by simp [numV, ok], hg, ?_⟩; simp only [nextL, nextE, ok, if_neg (show ¬ ((k : Int) < 0) by omega), if_true]; exact Rdr.same hr' hv hg hnc hn hp hd hx
 · have ok : gOk k l err = false := by simp [gOk, he]
   refine (number_stuck g n c k err p w hr he).mono ?_; rintro e w' ⟨rfl, hb⟩; refine ⟨by simp [numV, ok], below_grown hb _, ?_⟩; simp only [nextL, nextE, ok, if_neg he]; exact Rdr.below ⟨p, n, c, hr, hv, hnc, hn, hp, hd, hx⟩ hb
def RawStep (w : World) (g : Nat) (d : Option Nat) (k : Int) (l : List UInt8) (err : Int) (e : Ending) (w' : World) : Prop :=
 ∃ q c, e = .returned (.slice q (rawL k l err).length c) ∧ New w.heap.size w' (.slice q (rawL k l err).length c) (rawL k l err) ∧ w.grownBy w' (some g) ∧ Rdr w' g d (nextL k l err) (nextE k l err)
theorem new_nil (B : Nat) (w : World) : New B w (.slice none 0 0) [] := ⟨⟨none, 0, rfl, fun _ => rfl, fun a ha => by cases ha⟩, fun a n c h => by cases h⟩
theorem raw_any (g : Nat) (d : Option Nat) (k err : Int) (l : List UInt8) (w : World) (h : Rdr w g d l err) :
 Calls Tryz.prog 147 #[.pointer (some ⟨g, 0, none⟩), .int .i64 k] w (RawStep w g d k l err) := by
 obtain ⟨p, n, c, hr, hv, hnc, hn, hp, hd, hx⟩ := h; have hl := holds_len hv
 by_cases he : err = 0
 · subst he
   by_cases hneg : k < 0
   · have ok : gOk k l 0 = false := by simp [gOk]; omega
     refine (raw_neg g n c k p w hr hneg).mono ?_; rintro e w' ⟨rfl, hg, hr'⟩; refine ⟨none, 0, by simp [rawL, ok], by simp only [rawL, ok]; exact new_nil _ _, hg, ?_⟩; simp only [nextL, nextE, ok, if_pos hneg, if_true]; exact Rdr.same hr' hv hg hnc hn hp hd hx
   · obtain ⟨k, rfl⟩ : ∃ m : Nat, k = m := ⟨k.toNat, by omega⟩
     by_cases hkn : k ≤ n
     · have ok : gOk k l 0 = true := by simp [gOk]; omega
       refine (raw_ok g n c k p l w hr hv hnc hkn (by omega)).mono ?_; rintro e w' ⟨q, c', rfl, hnew, hg, hr'⟩; have hlen : (rawL k l 0).length = k := by simp [rawL, ok]; omega
       refine ⟨q, c', by rw [hlen], by rw [hlen]; simpa [rawL, ok] using hnew, hg, ?_⟩; simp only [nextL, nextE, ok, if_true, Int.toNat_natCast]; exact Rdr.next hr' hv hg hnc hn hp hd hx hkn
     · have ok : gOk k l 0 = false := by simp [gOk]; omega
       refine (raw_short g n c k p w hr (by omega)).mono ?_; rintro e w' ⟨rfl, hg, hr'⟩; refine ⟨none, 0, by simp [rawL, ok], by simp only [rawL, ok]; exact new_nil _ _, hg, ?_⟩; simp only [nextL, nextE, ok, if_neg hneg, if_true]; exact Rdr.same hr' hv hg hnc hn hp hd hx
 · have ok : gOk k l err = false := by simp [gOk, he]
   refine (raw_stuck g n c k err p w hr he).mono ?_; rintro e w' ⟨rfl, hb⟩; refine ⟨none, 0, by simp [rawL, ok], by simp only [rawL, ok]; exact new_nil _ _, below_grown hb _, ?_⟩; simp only [nextL, nextE, ok, if_neg he]; exact Rdr.below ⟨p, n, c, hr, hv, hnc, hn, hp, hd, hx⟩ hb
theorem numV_lt (k : Nat) (l : List UInt8) (err : Int) : 0 ≤ numV k l err ∧ numV k l err < 256 ^ k := by
 unfold numV
 split
 · refine ⟨by omega, ?_⟩; have h := num_lt (l.take k); have h2 : 256 ^ (l.take k).length ≤ 256 ^ k := Nat.pow_le_pow_right (by omega) (by rw [List.length_take]; omega); have h3 : num (l.take k) < 256 ^ k := by omega
   have : ((num (l.take k) : Nat) : Int) < ((256 ^ k : Nat) : Int) := by exact_mod_cast h3
   rw [Int.natCast_pow] at this; exact this
 · refine ⟨Int.le_refl _, ?_⟩; have : ((0 : Nat) : Int) < ((256 ^ k : Nat) : Int) := Int.ofNat_lt.2 (Nat.pow_pos (by omega)); rw [Int.natCast_pow] at this; exact this
end Go.Proofs.YtocekhckmpkbmaaGreat
namespace Go.Proofs.YtocekhckmpkbmaaGreat
open Go.RowKit
theorem numV1 (l : List UInt8) (err : Int) : 0 ≤ numV 1 l err ∧ numV 1 l err < 256 := numV_lt 1 l err
theorem numV2 (l : List UInt8) (err : Int) : 0 ≤ numV 2 l err ∧ numV 2 l err < 65536 := numV_lt 2 l err
theorem numV4 (l : List UInt8) (err : Int) : 0 ≤ numV 4 l err ∧ numV 4 l err < 4294967296 := numV_lt 4 l err
set_option maxHeartbeats 400000 in
theorem u8_any (g : Nat) (d : Option Nat) (err : Int) (l : List UInt8) (w : World) (h : Rdr w g d l err) :
 Calls Tryz.prog 73 #[.pointer (some ⟨g, 0, none⟩)] w (StepPost (.int .u8 (numV 1 l err)) w g d 1 l err) := by
 have h1 := lh h; obtain ⟨b0, b1⟩ := numV1 l err; clear h
 go_enter Tryz.func73, Tryz.ntmps73
 go_wp2_with (go_at_call 101; refine (number_any g d 1 err l w h1.out (by omega) (by omega)).mono ?_; rintro e w' ⟨rfl, hg, hr⟩)
 go_ret; exact ⟨rfl, hg, hr⟩
set_option maxHeartbeats 400000 in
theorem u16_any (g : Nat) (d : Option Nat) (err : Int) (l : List UInt8) (w : World) (h : Rdr w g d l err) :
 Calls Tryz.prog 152 #[.pointer (some ⟨g, 0, none⟩)] w (StepPost (.int .u16 (numV 2 l err)) w g d 2 l err) := by
 have h1 := lh h; obtain ⟨b0, b1⟩ := numV2 l err; clear h
 go_enter Tryz.func152, Tryz.ntmps152
 go_wp2_with (go_at_call 101; refine (number_any g d 2 err l w h1.out (by omega) (by omega)).mono ?_; rintro e w' ⟨rfl, hg, hr⟩)
 go_ret; exact ⟨rfl, hg, hr⟩
set_option maxHeartbeats 400000 in
theorem u32_any (g : Nat) (d : Option Nat) (err : Int) (l : List UInt8) (w : World) (h : Rdr w g d l err) :
 Calls Tryz.prog 75 #[.pointer (some ⟨g, 0, none⟩)] w (StepPost (.int .u32 (numV 4 l err)) w g d 4 l err) := by
 have h1 := lh h; obtain ⟨b0, b1⟩ := numV4 l err; clear h
 go_enter Tryz.func75, Tryz.ntmps75
 go_wp2_with (go_at_call 101; refine (number_any g d 4 err l w h1.out (by omega) (by omega)).mono ?_; rintro e w' ⟨rfl, hg, hr⟩)
 go_ret; exact ⟨rfl, hg, hr⟩
set_option maxHeartbeats 400000 in
theorem u64_any (g : Nat) (d : Option Nat) (err : Int) (l : List UInt8) (w : World) (h : Rdr w g d l err) :
 Calls Tryz.prog 74 #[.pointer (some ⟨g, 0, none⟩)] w (StepPost (.int .u64 (numV 8 l err)) w g d 8 l err) := by
 have h1 := lh h; clear h
 go_enter Tryz.func74, Tryz.ntmps74
 go_wp2_with (go_at_call 101; refine (number_any g d 8 err l w h1.out (by omega) (by omega)).mono ?_; rintro e w' ⟨rfl, hg, hr⟩)
 go_ret; exact ⟨rfl, hg, hr⟩
set_option maxHeartbeats 400000 in
theorem left_any (g : Nat) (d : Option Nat) (err : Int) (l : List UInt8) (w : World) (h : Rdr w g d l err) :
 Calls Tryz.prog 78 #[.pointer (some ⟨g, 0, none⟩)] w (fun e w' => e = .returned (.int .i64 (l.length : Int)) ∧ w = w') := by
 obtain ⟨p, n, c, hr, hv, _⟩ := h; obtain rfl := holds_len hv; have c0 := hr.c0; clear hr hv
 go_enter Tryz.func78, Tryz.ntmps78
 go_wp2; go_ret; exact ⟨rfl, rfl⟩
set_option maxHeartbeats 400000 in
theorem err_any (g : Nat) (d : Option Nat) (err : Int) (l : List UInt8) (w : World) (h : Rdr w g d l err) :
 Calls Tryz.prog 77 #[.pointer (some ⟨g, 0, none⟩)] w (fun e w' => e = .returned (.int .i64 err) ∧ w = w') := by
 obtain ⟨p, n, c, hr, hv, _⟩ := h; have c1 := hr.c1; clear hr hv
 go_enter Tryz.func77, Tryz.ntmps77
 go_wp2; go_ret; exact ⟨rfl, rfl⟩
def ReadPost (w : World) (l : List UInt8) (e : Ending) (w' : World) : Prop :=
 ∃ g d, e = .returned (.pointer (some ⟨g, 0, none⟩)) ∧ Rdr w' g d l 0 ∧ w.heap.size ≤ g ∧ (∀ x, d = some x → w.heap.size ≤ x) ∧ Below w.heap.size w w'
theorem read_shut {w w1 : World} {q : Option Addr} {n c : Nat} {l : List UInt8} (hnew : New w.heap.size w1 (.slice q n c) l) (hb : Below w.heap.size w w1) (hn : l.length ≤ 140737488355328) :
 ReadPost w l (.returned (.pointer (some ⟨w1.heap.size, 0, none⟩))) (w1.alloc (.cells #[.slice q n c, .int .i64 0] 151)) := by
 have hl := holds_len hnew.1; refine ⟨w1.heap.size, q.map (·.block), rfl, ⟨q, n, c, heap_alloc_new _ _, ?_, ?_, by omega, rfl, ?_, ?_⟩, hb.size, ?_, hb.alloc hb.size _⟩
 · exact holds_below hnew.1 ((Below.refl _ _).alloc (Nat.le_refl _) _) (Nat.le_refl _)
 · cases q with
   | none => obtain ⟨_, _, he, h1, _⟩ := hnew.1; cases he; rw [h1 rfl]; simp
   | some a => exact (hnew.2 a n c rfl).2.2
 · cases q with
   | none => simp
   | some a => have := (hnew.2 a n c rfl).2.1; simp; omega
 · intro x e; cases q with
   | none => cases e
   | some a => have := (hnew.2 a n c rfl).2.1; cases e; simp; omega
 · intro x e; cases q with
   | none => cases e
   | some a => have := (hnew.2 a n c rfl).1; cases e; exact this
set_option maxHeartbeats 400000 in
theorem read_any (p : Option Addr) (n c : Nat) (l : List UInt8) (w : World) (hv : Lib.HoldsBytes w (.slice p n c) l) (hn : n ≤ 140737488355328) :
 Calls Tryz.prog 72 #[.slice p n c] w (ReadPost w l) := by
 have hl := holds_len hv; have hv1 := lh hv; have hn1 : Hid (l.length ≤ 140737488355328) := by show _ ≤ _; omega
 clear hv hl
 go_enter Tryz.func72, Tryz.ntmps72
 go_wp2_with (go_at_call 100; refine (clone p n c l w hv1.out hn).mono ?_; rintro e w1 ⟨q, c', rfl, hnew, hb⟩)
 go_ret; exact read_shut hnew hb hn1.out
end Go.Proofs.YtocekhckmpkbmaaGreat
namespace Go.Proofs.YtocekhckmpkbmaaGreat
open Go.RowKit
/-- The slice v holds the bytes l in a row of its own from block base on. -/
def Own (w : World) (base : Nat) (v : Value) (l : List UInt8) : Prop := w.ownsRow base 5 1 v l.length (vals l)
theorem Own.holds {w : World} {base : Nat} {q : Option Addr} {n c : Nat} {l : List UInt8} (h : Own w base (.slice q n c) l) : Lib.HoldsBytes w (.slice q n c) l ∧ n ≤ c ∧ (∀ a, q = some a → base ≤ a.block ∧ a.block < w.heap.size) := by
 obtain ⟨hlen, ⟨he, h0⟩ | ⟨g, cap, cur, he, hg, hh, hle, hm, hsz, htk⟩⟩ := h
 · cases he; have : l = [] := List.eq_nil_of_length_eq_zero h0; subst this; exact ⟨⟨none, 0, rfl, fun _ => rfl, fun a ha => by cases ha⟩, Nat.le_refl _, fun a ha => by cases ha⟩
 · cases he; refine ⟨⟨some ⟨g, 0, none⟩, c, rfl, (fun h => by cases h), fun a ha i x hx => ?_⟩, hle, fun a ha => by cases ha; exact ⟨hg, (Array.getElem?_eq_some_iff.1 hh).1⟩⟩; cases ha; have hadd : (⟨g, 0, none⟩ : Addr).add i = ⟨g, i, none⟩ := by unfold Addr.add; split <;> simp_all
   have hi : i < l.length := (List.getElem?_eq_some_iff.1 hx).1; rw [hadd, cell_of_row w g i cur 5 (0, 0) hh]; have h3 := congrArg (·[i]?) htk; simp only [Nat.mul_one] at h3; rw [List.getElem?_take_of_lt hi] at h3; rw [← Array.getElem?_toList, h3]; simp [vals, hx]
theorem Own.shape {w : World} {base : Nat} {v : Value} {l : List UInt8} (h : Own w base v l) : ∃ q c, v = .slice q l.length c := by
 obtain ⟨hlen, ⟨he, h0⟩ | ⟨g, cap, cur, he, _⟩⟩ := h
 · exact ⟨none, 0, by rw [he, h0]⟩
 · exact ⟨_, _, he⟩
theorem Own.made {w : World} {n : Nat} (hn : n ≤ maxLen) : Own (w.alloc (.cells (vals (zs n)).toArray 5)) w.heap.size (.slice (some ⟨w.heap.size, 0, none⟩) 0 n) [] :=
 World.ownsRow_made w _ n (Nat.le_refl _) hn (by simp [vals, zs])
theorem Own.kept {w w' : World} {base : Nat} {q : Option Addr} {n c : Nat} {l : List UInt8} (h : Own w base (.slice q n c) l) (hb : ∀ a, q = some a → w'.heap[a.block]? = w.heap[a.block]?) : Own w' base (.slice q n c) l := by
 obtain ⟨hlen, ⟨he, h0⟩ | ⟨g, cap, cur, he, hg, hh, r⟩⟩ := h
 · exact ⟨hlen, Or.inl ⟨he, h0⟩⟩
 · cases he; exact ⟨hlen, Or.inr ⟨g, c, cur, rfl, hg, by rw [hb _ rfl]; exact hh, r⟩⟩
theorem Own.below {w w' : World} {base : Nat} {q : Option Addr} {n c : Nat} {l : List UInt8} (h : Own w base (.slice q n c) l) (hb : Below w.heap.size w w') : Own w' base (.slice q n c) l :=
 h.kept fun a ha => hb.block _ (h.holds.2.2 a ha).2
def blockOf (q : Option Addr) : Option Nat := q.map (·.block)
theorem run_append_bytes {w : World} {base : Nat} {q0 q : Option Addr} {n0 c0 m d : Nat} {l k : List UInt8} (ty : TypeId) (hown : Own w base (.slice q0 n0 c0) l) (hk : Lib.HoldsBytes w (.slice q m d) k) (hbig : n0 + m ≤ 1099511627776) (hbase : base ≤ w.heap.size) :
 ∃ q' c' w', (Builtin.append_ #[36, 36] ty #[.slice q0 n0 c0, .slice q m d]).run Tryz.prog w = .ok (.slice q' (n0 + m) c') w' ∧ Own w' base (.slice q' (n0 + m) c') (l ++ k) ∧ w.grownBy w' (blockOf q0) := by
 have e0 := holds_len hown.holds.1; have em := holds_len hk; obtain ⟨i0, hi, hz0, hz1, hz2⟩ := info_parts info5; obtain ⟨q1, cap, he, h1, h2⟩ := hk; cases he; cases q with
 | none =>
   have hk0 := h1 rfl; subst hk0; simp only [List.length_nil, Nat.add_zero, List.append_nil]; refine ⟨q0, c0, w, ?_, hown, ⟨rfl, rfl, rfl, Nat.le_refl _, fun _ _ _ => rfl⟩⟩; cases q0 with
   | none =>
     obtain ⟨_, ⟨he, h0⟩ | ⟨g, cap, cur, he, _⟩⟩ := hown
     · cases he; simp [Builtin.append_, run_underlying Tryz.underlying36, sizeOf, typeInfo, hi, Builtin.lenOf, Builtin.firstCells]
     · cases he
   | some a =>
     obtain ⟨_, ⟨he, h0⟩ | ⟨g, cap, cur, he, hg, hh, hle, _⟩⟩ := hown
     · cases he
     · cases he; have h := run_append_room_src (P := Tryz.prog) w 36 36 ty 5 i0 Tryz.underlying36 hi g 0 _ _ (.slice none 0 d) 0 [] (Src.ofNil w Tryz.underlying36 d) (by omega) (by intro j hj; simp at hj) (by intro j hj; simp at hj); simpa [World.setCells] using h
 | some a =>
   subst e0
   obtain ⟨v', w', hr, hown', hg, _⟩ := run_append_own (P := Tryz.prog) w base 36 ty 5 i0 (.int .u8 0) 1 1 Tryz.underlying36 hi hz0 hz1 hz2 rfl (by decide) _ l.length (vals l) hown a k.length d (vals k)
    (by rw [length_vals, Nat.mul_one])
    (fun j u hj => by obtain ⟨x, hx, rfl⟩ := vals_get hj; exact h2 a rfl j x hx) (one_vals k) (by unfold maxLen; omega) (by omega) hbase
   have hown2 : Own w' base v' (l ++ k) := by unfold Own; rw [List.length_append, vals_append]; exact hown'
   obtain ⟨q', c', rfl⟩ := hown2.shape; rw [List.length_append] at hr hown2; refine ⟨q', c', w', hr, hown2, ?_⟩; cases q0 <;> exact hg
theorem wpList_append_bytes {w : World} {ops : Array Oper} {rest : List Oper} {o : Oper} {a : Act} {Q : Exit → Act → World → Prop} (hgd : o.guard = none) (s x : Operand)
 (ho : o.op = .call { callee := .builtin .append, args := #[s, x], argTypes := #[36, 36] }) {base : Nat} {q0 q : Option Addr} {n0 c0 m d : Nat} {l k : List UInt8} (hs : a.eval s = .slice q0 n0 c0) (hx : a.eval x = .slice q m d)
 (hown : Own w base (.slice q0 n0 c0) l) (hk : Lib.HoldsBytes w (.slice q m d) k) (hbig : n0 + m ≤ 1099511627776) (hbase : base ≤ w.heap.size)
 (h : ∀ q' c' w', Own w' base (.slice q' (n0 + m) c') (l ++ k) → w.grownBy w' (blockOf q0) → wpList Tryz.prog ops Q rest (a.put o.dst (.slice q' (n0 + m) c')) w') : wpList Tryz.prog ops Q (o :: rest) a w := by
 obtain ⟨q', c', w', hr, h1, h2⟩ := run_append_bytes o.type hown hk hbig hbase; exact Lib.wpList_append_run_sl w hgd s x 36 ho _ _ hs hx hr (h q' c' w' h1 h2)
end Go.Proofs.YtocekhckmpkbmaaGreat
