/- over of the laws on rows, and Of of row and of the document. -/
import Derived.Test.YtkdkncbccofpdaaYFnd
namespace Go.Proofs.Ytkdkncbccofpdaa
open Go.RowKit

theorem below_step {W u v : World} (h2 : Below u.heap.size u v) (h : Below W.heap.size W u) : Below W.heap.size W v := h.trans (h2.mono h.size)

def OverPost (w : World) (n ln : Nat) (e : Ending) (w' : World) : Prop := ∃ b, e = .returned (.bool b) ∧ (b = false → n ≤ 20 ∧ ln ≤ 100) ∧ Below w.heap.size w w'

def ofL (l : List RowD) (t : Int) : List RowD := l.filter fun r => r.key.t == t
theorem ofL_ok {l : List RowD} {t : Int} (h : ∀ r ∈ l, RowOk r) : ∀ r ∈ ofL l t, RowOk r := fun r hr => h r (List.mem_filter.1 hr).1
theorem ofL_step {l : List RowD} {t : Int} {k : Nat} {r : RowD} (h : l[k]? = some r) : ofL (l.take (k + 1)) t = if (r.key.t == t) = true then ofL (l.take k) t ++ [r] else ofL (l.take k) t := by
  unfold ofL
  rw [List.take_add_one, h, List.filter_append]
  by_cases hk : (r.key.t == t) = true
  · rw [if_pos hk]; simp [hk]
  · rw [if_neg hk]; simp [hk]
theorem ofL_len (l : List RowD) (t : Int) (k : Nat) : (ofL (l.take k) t).length ≤ k := Nat.le_trans (List.length_filter_le _ _) (by rw [List.length_take]; omega)

def RowsPost (w : World) (L : List RowD) (e : Ending) (w' : World) : Prop := ∃ q' m' c', e = .returned (.slice q' m' c') ∧ OwnR 68 w' w.heap.size (.slice q' m' c') L ∧ RowsOn w' q' m' c' L ∧ Below w.heap.size w w'

def OfRel (w wr : World) (l : List RowD) (t : Int) (k : Nat) (v : Value) : Prop := Below w.heap.size w wr ∧ OwnR 68 wr w.heap.size v (ofL (l.take k) t)

theorem OfRel.hit {w wr W2 w' : World} {l : List RowD} {t : Int} {k : Nat} {q0 q' : Option Addr} {n0 c0 c' : Nat} {r : RowD} (h : OfRel w wr l t k (.slice q0 n0 c0)) (hx : l[k]? = some r) (hk : (r.key.t == t) = true) (hb : Below wr.heap.size wr W2)
    (ho : OwnR 68 w' w.heap.size (.slice q' (n0 + 1) c') (ofL (l.take k) t ++ [r])) (hg : W2.grownBy w' (q0.map (·.block))) : OfRel w w' l t (k + 1) (.slice q' (n0 + 1) c') := by
  refine ⟨?_, by rw [ofL_step hx, if_pos hk]; exact ho⟩
  have h2 := h.1.trans (hb.mono h.1.size)
  exact h2.trans (grown_belowN hg h2.size (fun j hj => by
    cases q0 with
    | none => cases hj
    | some a => cases hj; exact (h.2.far a rfl).1))
theorem OfRel.miss {w wr W2 : World} {l : List RowD} {t : Int} {k : Nat} {q0 : Option Addr} {n0 c0 : Nat} {r : RowD} (h : OfRel w wr l t k (.slice q0 n0 c0)) (hx : l[k]? = some r) (hk : ¬ (r.key.t == t) = true) (hb : Below wr.heap.size wr W2) : OfRel w W2 l t (k + 1) (.slice q0 n0 c0) :=
  ⟨h.1.trans (hb.mono h.1.size), by rw [ofL_step hx, if_neg hk]; exact h.2.below hb⟩

set_option maxRecDepth 100000 in
set_option maxHeartbeats 2000000 in
theorem of_any (q : Option Addr) (n c : Nat) (l : List RowD) (t : Int) (w : World) (hr : RowsOn w q n c l) (hn : n ≤ 1000000) :
    Calls Try.prog 84 #[.slice q n c, .int .i64 t] w (RowsPost w (ofL l t)) := by
  have hrr := Lib.hid hr
  have hll := Lib.hid hr.len
  clear hr
  have hr0 : Hid (OfRel w w l t 0 (.slice none 0 0)) := ⟨Below.refl _ _, OwnR.nil _ _ _⟩
  go_enter Try.func84, Try.ntmps84
  go_wp2
  go_loopw [5, 10] (fun v5 v10 wr => ∃ (k : Nat) (q0 : Option Addr) (n0 c0 : Nat), k ≤ n ∧ v10 = .int .i64 k ∧ v5 = .slice q0 n0 c0 ∧ Hid (OfRel w wr l t k (.slice q0 n0 c0))) (fun _ v10 _ => n - (intOf v10).toNat)
  case atStart => exact ⟨0, none, 0, 0, Nat.zero_le _, rfl, rfl, hr0⟩
  case round =>
    obtain ⟨k, q0, n0, c0, hk, rfl, rfl, hrl⟩ := hrel
    by_cases hlt : k < n
    · obtain ⟨a, ⟨⟨pt, pid⟩, pv, ps⟩, rfl, hx, hok, hc⟩ := (hrr.out.below hrl.out.1 (Nat.le_refl _)).at hlt
      have hcell : Hid (∀ j x, ([.int .i64 pt, .int .u16 pid, .int .i64 pv, .string ps] : List Value)[j]? = some x → wr.cell? ((a.add (k * 4)).add j) = some x) := hc
      have hx' := Lib.hid hx
      have hok' := Lib.hid hok
      have hs2 := sizeRow pt pid pv ps
      have f1 := Lib.hid (Boxed.made (T := 68) wr [.int .i64 pt, .int .u16 pid, .int .i64 pv, .string ps])
      have hn0 : n0 ≤ k := by rw [hrl.out.2.len]; exact ofL_len l t k
      clear hx hok hc
      by_cases he : pt = t
      · obtain rfl : t = pt := he.symm
        clear he
        obtain ⟨W2, hW2⟩ : ∃ W2, (wr.alloc (.cells #[.int .i64 t, .int .u16 pid, .int .i64 pv, .string ps] 68)).alloc (.cells #[.int .i64 t, .int .u16 pid, .int .i64 pv, .string ps] 68) = W2 := ⟨_, rfl⟩
        have hb2 := Lib.hid (two_boxes (xs := [.int .i64 t, .int .u16 pid, .int .i64 pv, .string ps]) (ys := [.int .i64 t, .int .u16 pid, .int .i64 pv, .string ps]) hW2)
        have hrow : Hid (RowsOn W2 (some ⟨wr.heap.size + 1, 0, none⟩) 1 1 [⟨⟨t, pid⟩, pv, ps⟩]) := by
          have h0 := RowV.made (T := 68) (wr.alloc (.cells #[.int .i64 t, .int .u16 pid, .int .i64 pv, .string ps] 68)) [.int .i64 t, .int .u16 pid, .int .i64 pv, .string ps]
          have h1 : RowV 68 W2 (wr.heap.size + 1) [.int .i64 t, .int .u16 pid, .int .i64 pv, .string ps] := by rw [← hW2]; simpa using h0
          exact RowV.rows1 (r := ⟨⟨t, pid⟩, pv, ps⟩) h1 hok'.out
        have hown := Lib.hid (hrl.out.2.below hb2.out.1)
        have hsz : Hid (w.heap.size ≤ W2.heap.size) := Nat.le_trans hrl.out.1.size hb2.out.1.size
        have h40 : Hid ((n0 + 1) * 40 ≤ 140737488355328) := by show _ ≤ _; omega
        have h41 : Hid (n0 + 1 ≤ 140737488355328) := by show _ ≤ _; omega
        go_wp2_with (first
          | (with_reducible refine wpList_load_at rfl 68 (.tmp 12) rfl Try.underlying68 rfl hs2 rfl hcell.out ?_)
          | (with_reducible refine wpList_load_at rfl 68 (.tmp 7) rfl Try.underlying68 rfl hs2 rfl f1.out.all ?_)
          | (at_builtin
             refine wpList_append_r Try.underlying25 infoRow rfl rfl (.tmp 19) (.tmp 21) rfl rfl rfl hown.out hrow.out h40.out h41.out hsz.out ?_
             intro q' c' w' h1 h2 h3
             have hnew := Lib.hid (hrl.out.hit hx'.out (by simp) hb2.out.1 h1 h2)
             clear h1 h2 h3))
        go_roundw
        case rel => exact ⟨k + 1, q', n0 + 1, c', by omega, by go_num, rfl, hnew⟩
        case measure => simp [intOf]; omega
      · have he2 : (pt == t) = false := by simpa using he
        have hnew := Lib.hid (hrl.out.miss hx'.out (by simpa using he) ((Below.refl _ _).alloc (Nat.le_refl _) (.cells #[.int .i64 pt, .int .u16 pid, .int .i64 pv, .string ps] 68)))
        go_wp2_with (first
          | (with_reducible refine wpList_load_at rfl 68 (.tmp 12) rfl Try.underlying68 rfl hs2 rfl hcell.out ?_))
        go_roundw
        case rel => exact ⟨k + 1, q0, n0, c0, by omega, by go_num, rfl, hnew⟩
        case measure => simp [intOf]; omega
    · obtain rfl : n = k := by omega
      have ho := hrl.out.2
      rw [List.take_of_length_le (by rw [hll.out]; exact Nat.le_refl _)] at ho
      have ho' := Lib.hid ho
      clear ho
      go_wp2
      go_ret
      exact ⟨q0, n0, c0, rfl, ho'.out, ho'.out.reads (ofL_ok hrr.out.ok), hrl.out.1⟩
end Go.Proofs.Ytkdkncbccofpdaa
