/- The contracts of number and Raw, way by way. -/
import Derived.Test.YtcniolmihpkmmaaNum
namespace Go.Proofs.Ytcniolmihpkmmaa
open Go.RowKit

/-- where a slice begins behind its first k elements -/
def tl (p : Option Addr) (c k : Nat) : Option Addr := if c = k then p else p.map (·.add k)

theorem add_zero (a : Addr) : a.add 0 = a := by cases a; unfold Addr.add; split <;> simp_all

set_option maxRecDepth 100000 in
theorem slice_head (p : Option Addr) (n c k : Nat) (hk : k ≤ n) (hn : n ≤ c) (u : World) :
    (Instr.slice 102 (.slice p n c) none (some (.int .i64 (k : Int))) none).run Try.prog u = .ok (.slice p k c) u := by
  have h := run_slice_h (P := Try.prog) u 102 p n c (by kernel_rfl) .i64 (k : Int) (by omega) (by omega)
  rw [h, show (sizeOf (Try.prog.elem 102)).run Try.prog u = .ok 1 u by kernel_rfl]
  simp only [Result.andThen, sliced, Int.toNat_natCast, Nat.zero_mul, Nat.sub_zero]
  congr 2
  split
  · rfl
  · cases p <;> simp [add_zero]

set_option maxRecDepth 100000 in
theorem slice_tail (p : Option Addr) (n c k : Nat) (hk : k ≤ n) (u : World) :
    (Instr.slice 102 (.slice p n c) (some (.int .i64 (k : Int))) none none).run Try.prog u = .ok (.slice (tl p c k) (n - k) (c - k)) u := by
  have h := run_slice_l (P := Try.prog) u 102 p n c (by kernel_rfl) .i64 (k : Int) (by omega) (by omega)
  rw [h, show (sizeOf (Try.prog.elem 102)).run Try.prog u = .ok 1 u by kernel_rfl]
  simp only [Result.andThen, sliced, Int.toNat_natCast, Nat.mul_one]
  rfl

/-- The reader's own two cells. -/
def RdrV (w : World) (g : Nat) (p : Option Addr) (n c : Nat) (err : Int) : Prop := w.heap[g]? = some (.cells #[.slice p n c, .int .i64 err] 104 (0, 0))

theorem RdrV.c0 {w : World} {g : Nat} {p : Option Addr} {n c : Nat} {err : Int} (h : RdrV w g p n c err) : w.cell? ⟨g, 0, none⟩ = some (.slice p n c) := by unfold RdrV at h; simp [World.cell?, h]
theorem RdrV.c1 {w : World} {g : Nat} {p : Option Addr} {n c : Nat} {err : Int} (h : RdrV w g p n c err) : w.cell? ⟨g, 1, none⟩ = some (.int .i64 err) := by unfold RdrV at h; simp [World.cell?, h]
theorem RdrV.fz {w : World} {g : Nat} {p : Option Addr} {n c : Nat} {err : Int} (h : RdrV w g p n c err) (o : Nat) : w.frozen? ⟨g, o, none⟩ = false := by unfold RdrV at h; simp [World.frozen?, h]
theorem RdrV.lt {w : World} {g : Nat} {p : Option Addr} {n c : Nat} {err : Int} (h : RdrV w g p n c err) : g < w.heap.size := (Array.getElem?_eq_some_iff.1 h).1
theorem RdrV.set0 {w : World} {g : Nat} {p q : Option Addr} {n c m d : Nat} {err : Int} (h : RdrV w g p n c err) : RdrV (w.setCell ⟨g, 0, none⟩ (.slice q m d)) g q m d err := by
  have hlt := h.lt
  have hv : w.heap[g] = .cells #[.slice p n c, .int .i64 err] 104 (0, 0) := (Array.getElem?_eq_some_iff.1 h).2
  show (w.heap.modify g _)[g]? = _
  rw [Array.getElem?_eq_getElem (by simpa using hlt), Array.getElem_modify_self, hv]
  rfl
theorem RdrV.set1 {w : World} {g : Nat} {p : Option Addr} {n c : Nat} {err e2 : Int} (h : RdrV w g p n c err) : RdrV (w.setCell ⟨g, 1, none⟩ (.int .i64 e2)) g p n c e2 := by
  have hlt := h.lt
  have hv : w.heap[g] = .cells #[.slice p n c, .int .i64 err] 104 (0, 0) := (Array.getElem?_eq_some_iff.1 h).2
  show (w.heap.modify g _)[g]? = _
  rw [Array.getElem?_eq_getElem (by simpa using hlt), Array.getElem_modify_self, hv]
  rfl
theorem RdrV.block {w w' : World} {g : Nat} {p : Option Addr} {n c : Nat} {err : Int} (h : RdrV w g p n c err) (hb : w'.heap[g]? = w.heap[g]?) : RdrV w' g p n c err := by
  unfold RdrV at *; rw [hb]; exact h

def NumPost (w : World) (g : Nat) (p : Option Addr) (n c k : Nat) (l : List UInt8) (e : Ending) (w' : World) : Prop :=
  e = .returned (.int .u64 (num (l.take k) : Int)) ∧ w.grownBy w' (some g) ∧ RdrV w' g (tl p c k) (n - k) (c - k) 0

theorem holds_take {w w' : World} {p : Option Addr} {n c k : Nat} {l : List UInt8} (h : Lib.HoldsBytes w (.slice p n c) l) (hb : Below w.heap.size w w') (hk : k ≤ n) : Lib.HoldsBytes w' (.slice p k c) (l.take k) := by
  obtain ⟨q, cap, he, h1, h2⟩ := h
  cases he
  refine ⟨p, c, ?_, fun hp => by rw [h1 hp]; simp, fun a ha i x hx => ?_⟩
  · rw [List.length_take, Nat.min_eq_left hk]
  · rw [List.getElem?_take] at hx
    split at hx
    · exact Lib.Below.cellOf hb (h2 a ha i x hx) (Nat.le_refl _)
    · cases hx

theorem num_old {w w1 : World} {A B : Obj} {k i : Nat} {l : List UInt8} (hr : NumRel ((w.alloc A).alloc B) w1 w.heap.size (w.heap.size + 1) k i l) (j : Nat) (hj : j < w.heap.size) : w1.heap[j]? = w.heap[j]? := by
  rw [hr.grown.block j (by simp; omega) (by simp; omega), heap_alloc_old _ _ (by simp; omega), heap_alloc_old _ _ hj]

theorem num_grown {w w1 : World} {A B : Obj} {k i g : Nat} {v : Value} {l : List UInt8} (hr : NumRel ((w.alloc A).alloc B) w1 w.heap.size (w.heap.size + 1) k i l) : w.grownBy (w1.setCell ⟨g, 0, none⟩ v) (some g) := by
  have hs := hr.size
  have h1 := hr.grown
  refine ⟨h1.os, h1.tape, h1.output, by simp [World.setCell] at hs ⊢; omega, fun j hj hne => ?_⟩
  rw [Below.heap_setCell _ _ _ _ (fun e => hne (by rw [e]))]
  exact num_old hr j hj

set_option maxRecDepth 100000 in
set_option maxHeartbeats 400000 in
theorem number_ok (g n c k : Nat) (p : Option Addr) (l : List UInt8) (w : World) (h : RdrV w g p n c 0) (hv : Lib.HoldsBytes w (.slice p n c) l) (hnc : n ≤ c)
    (hp : ∀ a, p = some a → a.block < w.heap.size) (hk : k ≤ n) (hk8 : k ≤ 8) :
    Calls Try.prog 61 #[.pointer (some ⟨g, 0, none⟩), .int .i64 k] w (NumPost w g p n c k l) := by
  have c0 := h.c0
  have c1 := h.c1
  have f0 := h.fz 0
  have hg := h.lt
  have s1 := slice_head p n c k hk hnc
  have s2 := slice_tail p n c k hk
  have hB := Lib.hid (((Below.refl w.heap.size w).alloc (Nat.le_refl _) (.cells #[.int .i64 k] 3)).alloc (by simp) (.cells #[.int .u64 0] 67))
  have hv1 := Lib.hid (holds_take hv hB.out hk)
  have hp1 : Hid (∀ a, p = some a → a.block ≠ w.heap.size + 1) := fun a ha => by have := hp a ha; omega
  have h1 := Lib.hid h
  have hx2 : Hid (((w.alloc (.cells #[.int .i64 k] 3)).alloc (.cells #[.int .u64 0] 67)).heap[w.heap.size]? = some (.cells #[.int .i64 k] 3 (0, 0))) := by
    show _ = _; rw [heap_alloc_old _ _ (by simp), heap_alloc_new]
  have hx3 : Hid (((w.alloc (.cells #[.int .i64 k] 3)).alloc (.cells #[.int .u64 0] 67)).heap[w.heap.size + 1]? = some (.cells #[.int .u64 0] 67 (0, 0))) := by
    have := heap_alloc_new (w.alloc (.cells #[.int .i64 k] 3)) (.cells #[.int .u64 0] 67)
    rw [World.size_alloc] at this
    exact this
  clear hv hp h
  go_enter Try.func61, Try.ntmps61
  go_wp2_with (first
    | (go_at_call 70
       refine (number1 p k c w.heap.size (w.heap.size + 1) (l.take k) _ hv1.out hk8 hp1.out hx2.out hx3.out).mono ?_
       rintro e w1 ⟨rfl, hr⟩
       have hr1 := h1.out.block (num_old hr g hg)
       have d0 := hr1.c0
       have d1 := hr1.fz 0
       have d2 := cell_of_one hr.var
       have hr2 := Lib.hid hr
       have hr3 := Lib.hid hr1
       clear hr hr1)
    | go_in)
  all_goals
    go_ret
    refine ⟨?_, num_grown hr2.out, hr3.out.set0⟩
    exact congrArg (fun x : List UInt8 => Ending.returned (.int .u64 (num x : Int))) (by rw [List.take_take, Nat.min_self])

set_option maxRecDepth 100000 in
set_option maxHeartbeats 400000 in
theorem number_nil (k : Int) (w : World) :
    Calls Try.prog 61 #[.pointer none, .int .i64 k] w (fun e w' => e = .returned (.int .u64 0) ∧ Below w.heap.size w w') := by
  go_enter Try.func61, Try.ntmps61
  go_wp2
  go_ret
  exact ⟨rfl, ((Below.refl _ _).alloc (Nat.le_refl _) _).alloc (by simp) _⟩

set_option maxRecDepth 100000 in
set_option maxHeartbeats 400000 in
theorem number_stuck (g n c : Nat) (k err : Int) (p : Option Addr) (w : World) (h : RdrV w g p n c err) (he : err ≠ 0) :
    Calls Try.prog 61 #[.pointer (some ⟨g, 0, none⟩), .int .i64 k] w (fun e w' => e = .returned (.int .u64 0) ∧ Below w.heap.size w w') := by
  have c1 := h.c1
  have hg := h.lt
  have he1 : (err == 0) = false := by simpa using he
  have he2 : (err != 0) = true := by simpa using he
  clear h
  go_enter Try.func61, Try.ntmps61
  go_wp2
  go_ret
  exact ⟨rfl, ((Below.refl _ _).alloc (Nat.le_refl _) _).alloc (by simp) _⟩

theorem set_grown {w : World} {g o : Nat} {v : Value} : w.grownBy (w.setCell ⟨g, o, none⟩ v) (some g) :=
  ⟨rfl, rfl, rfl, by simp [World.setCell], fun j _ hne => Below.heap_setCell _ _ _ _ (fun e => hne (by rw [e]))⟩
theorem grown_alloc {w w1 : World} {g : Nat} (h : w.grownBy w1 (some g)) (A : Obj) : w.grownBy (w1.alloc A) (some g) :=
  ⟨h.os, h.tape, h.output, by have := h.size; simp; omega, fun j hj hne => by rw [heap_alloc_old _ _ (by have := h.size; omega)]; exact h.block j hj hne⟩
theorem RdrV.alloc {w : World} {g : Nat} {p : Option Addr} {n c : Nat} {err : Int} (h : RdrV w g p n c err) (A : Obj) : RdrV (w.alloc A) g p n c err := h.block (heap_alloc_old _ _ h.lt)

set_option maxRecDepth 100000 in
set_option maxHeartbeats 400000 in
theorem number_short (g n c k : Nat) (p : Option Addr) (w : World) (h : RdrV w g p n c 0) (hk : n < k) :
    Calls Try.prog 61 #[.pointer (some ⟨g, 0, none⟩), .int .i64 k] w (fun e w' => e = .returned (.int .u64 0) ∧ w.grownBy w' (some g) ∧ RdrV w' g p n c 7) := by
  have c0 := h.c0
  have c1 := h.c1
  have f1 := h.fz 1
  have hg := h.lt
  have h1 := Lib.hid h
  clear h
  go_enter Try.func61, Try.ntmps61
  go_wp2
  go_ret
  exact ⟨rfl, grown_alloc (grown_alloc set_grown _) _, (h1.out.set1.alloc _).alloc _⟩

set_option maxRecDepth 100000 in
set_option maxHeartbeats 400000 in
theorem raw_nil (k : Int) (w : World) :
    Calls Try.prog 53 #[.pointer none, .int .i64 k] w (fun e w' => e = .returned (.slice none 0 0) ∧ Below w.heap.size w w') := by
  go_enter Try.func53, Try.ntmps53
  go_wp2
  go_ret
  exact ⟨rfl, (Below.refl _ _).alloc (Nat.le_refl _) _⟩

set_option maxRecDepth 100000 in
set_option maxHeartbeats 400000 in
theorem raw_stuck (g n c : Nat) (k err : Int) (p : Option Addr) (w : World) (h : RdrV w g p n c err) (he : err ≠ 0) :
    Calls Try.prog 53 #[.pointer (some ⟨g, 0, none⟩), .int .i64 k] w (fun e w' => e = .returned (.slice none 0 0) ∧ Below w.heap.size w w') := by
  have c1 := h.c1
  have hg := h.lt
  have he1 : (err == 0) = false := by simpa using he
  have he2 : (err != 0) = true := by simpa using he
  clear h
  go_enter Try.func53, Try.ntmps53
  go_wp2
  go_ret
  exact ⟨rfl, (Below.refl _ _).alloc (Nat.le_refl _) _⟩

set_option maxRecDepth 100000 in
set_option maxHeartbeats 400000 in
theorem raw_short (g n c : Nat) (k : Int) (p : Option Addr) (w : World) (h : RdrV w g p n c 0) (hk : (n : Int) < k) :
    Calls Try.prog 53 #[.pointer (some ⟨g, 0, none⟩), .int .i64 k] w (fun e w' => e = .returned (.slice none 0 0) ∧ w.grownBy w' (some g) ∧ RdrV w' g p n c 7) := by
  have c0 := h.c0
  have c1 := h.c1
  have f1 := h.fz 1
  have hg := h.lt
  have h1 := Lib.hid h
  clear h
  go_enter Try.func53, Try.ntmps53
  go_wp2
  go_ret
  exact ⟨rfl, grown_alloc set_grown _, h1.out.set1.alloc _⟩

set_option maxRecDepth 100000 in
set_option maxHeartbeats 400000 in
theorem raw_neg (g n c : Nat) (k : Int) (p : Option Addr) (w : World) (h : RdrV w g p n c 0) (hk : k < 0) :
    Calls Try.prog 53 #[.pointer (some ⟨g, 0, none⟩), .int .i64 k] w (fun e w' => e = .returned (.slice none 0 0) ∧ w.grownBy w' (some g) ∧ RdrV w' g p n c 2) := by
  have c0 := h.c0
  have c1 := h.c1
  have f1 := h.fz 1
  have hg := h.lt
  have h1 := Lib.hid h
  clear h
  go_enter Try.func53, Try.ntmps53
  go_wp2
  go_ret
  exact ⟨rfl, grown_alloc set_grown _, h1.out.set1.alloc _⟩

def RawPost (w : World) (g : Nat) (p : Option Addr) (n c k : Nat) (l : List UInt8) (e : Ending) (w' : World) : Prop :=
  ∃ q c', e = .returned (.slice q k c') ∧ New w.heap.size w' (.slice q k c') (l.take k) ∧ w.grownBy w' (some g) ∧ RdrV w' g (tl p c k) (n - k) (c - k) 0

theorem raw_old {w w1 : World} {A : Obj} (hb : Below (w.alloc A).heap.size (w.alloc A) w1) (j : Nat) (hj : j < w.heap.size) : w1.heap[j]? = w.heap[j]? := by
  rw [hb.block j (by simp; omega), heap_alloc_old _ _ hj]
theorem raw_box {w w1 : World} {A : Obj} (hb : Below (w.alloc A).heap.size (w.alloc A) w1) : w1.heap[w.heap.size]? = some A := by
  rw [hb.block _ (by simp), heap_alloc_new]

theorem holds_block {w w' : World} {v : Value} {l : List UInt8} (h : Lib.HoldsBytes w v l) (hb : ∀ a n c, v = .slice (some a) n c → w'.heap[a.block]? = w.heap[a.block]?) : Lib.HoldsBytes w' v l := by
  obtain ⟨p, cap, rfl, h1, h2⟩ := h
  refine ⟨p, cap, rfl, h1, fun a ha i x hx => ?_⟩
  subst ha
  have hbl : (a.add i).block = a.block := by unfold Addr.add; split <;> rfl
  rw [World.cell?_of_block (w := w) (by rw [hbl]; exact hb a _ _ rfl)]
  exact h2 a rfl i x hx

theorem raw_shut {w w1 : World} {A : Obj} {g n c k c' : Nat} {p q : Option Addr} {l : List UInt8} (hb : Below (w.alloc A).heap.size (w.alloc A) w1) (hr : RdrV w1 g p n c 0) (hnew : New (w.alloc A).heap.size w1 (.slice q k c') (l.take k)) (hg : g < w.heap.size) :
    RawPost w g p n c k l (.returned (.slice q k c')) ((w1.setCell ⟨w.heap.size, 0, none⟩ (.slice q k c')).setCell ⟨g, 0, none⟩ (.slice (tl p c k) (n - k) (c - k))) := by
  have hs := hb.size
  have hne : g ≠ w.heap.size := by omega
  refine ⟨q, c', rfl, ⟨holds_block hnew.1 ?_, fun a n c h => by have := hnew.2 a n c h; simp [World.setCell] at this ⊢; omega⟩, ⟨hb.os, hb.tape, hb.output, by simp [World.setCell] at hs ⊢; omega, fun j hj hj2 => ?_⟩, ?_⟩
  · intro a n' c'' h
    have := hnew.2 a n' c'' h
    simp at this
    rw [Below.heap_setCell _ _ _ _ (by simp; omega), Below.heap_setCell _ _ _ _ (by simp; omega)]
  · rw [Below.heap_setCell _ _ _ _ (fun e => hj2 (by rw [e])), Below.heap_setCell _ _ _ _ (by simp; omega)]
    exact raw_old hb j hj
  · exact (hr.block (Below.heap_setCell _ _ _ _ (by simpa using hne))).set0

set_option maxRecDepth 100000 in
set_option maxHeartbeats 400000 in
theorem raw_ok (g n c k : Nat) (p : Option Addr) (l : List UInt8) (w : World) (h : RdrV w g p n c 0) (hv : Lib.HoldsBytes w (.slice p n c) l) (hnc : n ≤ c)
    (hk : k ≤ n) (hk8 : k ≤ 140737488355328) :
    Calls Try.prog 53 #[.pointer (some ⟨g, 0, none⟩), .int .i64 k] w (RawPost w g p n c k l) := by
  have c0 := h.c0
  have c1 := h.c1
  have f0 := h.fz 0
  have hg := h.lt
  have s1 := slice_head p n c k hk hnc
  have s2 := slice_tail p n c k hk
  have hB := Lib.hid ((Below.refl w.heap.size w).alloc (Nat.le_refl _) (.cells #[.slice none 0 0] 33))
  have hv1 := Lib.hid (holds_take hv hB.out hk)
  have h1 := Lib.hid h
  have lens := Lib.hid (show l.length = n by obtain ⟨_, _, he, _⟩ := hv; cases he; rfl)
  clear hv h
  go_enter Try.func53, Try.ntmps53
  go_wp2_with (first
    | (go_at_call 60
       refine (clone p k c (l.take k) _ hv1.out hk8).mono ?_
       rintro e w1 ⟨q, c', rfl, hnew, hb⟩
       rw [List.length_take, lens.out, Nat.min_eq_left hk] at hnew ⊢
       have hr1 := h1.out.block (raw_old hb g hg)
       have hbox := raw_box hb
       have d0 := hr1.c0
       have d1 := hr1.fz 0
       have d2 := cell_of_one hbox
       have d3 := free_of_one hbox
       have hr2 := Lib.hid hb
       have hr3 := Lib.hid hr1
       have hr4 := Lib.hid hnew
       have hgne : g ≠ w.heap.size := by omega
       clear hb hr1 hnew hbox)
    | go_in)
  all_goals
    go_ret
    exact raw_shut hr2.out hr3.out hr4.out hg

end Go.Proofs.Ytcniolmihpkmmaa
