/- The document's Without and With. -/
import Derived.Test.YtaiepdhmlmnggaaYFin
import Derived.Test.YtaiepdhmlmnggaaYTak
import Derived.Test.YtaiepdhmlmnggaaYInt

namespace Go.Proofs.Ytaiepdhmlmnggaa
open Go.RowKit

theorem neq_keyY (w : World) (a b c d : Int) : (binOp .neq 28 (.agg #[.int .i64 a, .int .u16 b]) (.agg #[.int .i64 c, .int .u16 d])).run Try.prog w = .ok (.bool (!eqK ⟨a, b⟩ ⟨c, d⟩)) w := by
  rw [run_neq_struct]
  have hS : Try.prog.underlying 28 = some (.struct (Try.prog.fieldsOf 28)) := by kernel_rfl
  have hp : Try.prog.stoodInHeld 28 = false := by kernel_rfl
  have u3 := Try.underlying3
  have u4 := Try.underlying26
  have a3 := Try.isAgg3
  have a4 := Try.isAgg26
  have z3 := Try.sizeOf3
  have z4 := Try.sizeOf26
  rw [show (10000 : Nat) = 9999 + 1 from rfl, run_equalIn_agg w 9999 28 _ _ hS hp]
  simp only [Program.fieldsOf, Try.underlying28]
  clear hS hp
  unfold eqK
  go_simp
  by_cases h1 : a = c <;> by_cases h2 : b = d <;> simp [h1, h2]

def gatL (p : RowD → Bool) (l : List RowD) : List RowD := l.filter p
theorem gatL_ok {l : List RowD} {p : RowD → Bool} (h : ∀ r ∈ l, RowOk r) : ∀ r ∈ gatL p l, RowOk r := fun r hr => h r (List.mem_filter.1 hr).1
theorem gatL_step {l : List RowD} {p : RowD → Bool} {k : Nat} {r : RowD} (h : l[k]? = some r) : gatL p (l.take (k + 1)) = if p r = true then gatL p (l.take k) ++ [r] else gatL p (l.take k) := by
  unfold gatL
  rw [List.take_add_one, h, List.filter_append]
  by_cases hk : p r = true
  · rw [if_pos hk]; simp [hk]
  · rw [if_neg hk]; simp [hk]
theorem gatL_len (l : List RowD) (p : RowD → Bool) (k : Nat) : (gatL p (l.take k)).length ≤ k := Nat.le_trans (List.length_filter_le _ _) (by rw [List.length_take]; omega)
/-- a list without the rows of a key -/
def notP (k : KeyD) (r : RowD) : Bool := !eqK r.key k
def outL (l : List RowD) (k : KeyD) : List RowD := gatL (notP k) l
theorem outL_len (l : List RowD) (k : KeyD) : (outL l k).length ≤ l.length := List.length_filter_le _ _

/-- what a list of the call's own holds in the middle of a loop -/
def AccRel (w wr : World) (L : List RowD) (v : Value) : Prop := Below w.heap.size w wr ∧ OwnR 30 wr w.heap.size v L
theorem AccRel.hit {w wr W2 w' : World} {L : List RowD} {q0 q' : Option Addr} {n0 c0 n' c' : Nat} {r : RowD} (h : AccRel w wr L (.slice q0 n0 c0)) (hb : Below wr.heap.size wr W2)
    (ho : OwnR 30 w' w.heap.size (.slice q' n' c') (L ++ [r])) (hg : W2.grownBy w' (q0.map (·.block))) : AccRel w w' (L ++ [r]) (.slice q' n' c') := by
  refine ⟨?_, ho⟩
  have h2 := h.1.trans (hb.mono h.1.size)
  exact h2.trans (grown_belowN hg h2.size (fun j hj => by
    cases q0 with
    | none => cases hj
    | some a => cases hj; exact (h.2.far a rfl).1))
theorem AccRel.on {w wr W2 : World} {L : List RowD} {q0 : Option Addr} {n0 c0 : Nat} (h : AccRel w wr L (.slice q0 n0 c0)) (hb : Below wr.heap.size wr W2) : AccRel w W2 L (.slice q0 n0 c0) := ⟨h.1.trans (hb.mono h.1.size), h.2.below hb⟩

set_option maxRecDepth 100000 in
set_option maxHeartbeats 2000000 in
theorem without_any (q : Option Addr) (n c : Nat) (l : List RowD) (t id : Int) (w : World) (hr : RowsOn w q n c l) (hn : n ≤ 1000000) :
    Calls Try.prog 25 #[.slice q n c, .agg #[.int .i64 t, .int .u16 id]] w (RowsPost w (outL l ⟨t, id⟩)) := by
  obtain ⟨W, hW⟩ : ∃ W, w.alloc (.cells #[.int .i64 t, .int .u16 id] 28) = W := ⟨_, rfl⟩
  have hbx := Lib.hid (one_box (xs := [.int .i64 t, .int .u16 id]) hW)
  have hrr := Lib.hid (hr.below hbx.out.1 (Nat.le_refl _))
  have hll := Lib.hid hr.len
  clear hr
  have hr0 : Hid (AccRel W W (outL (l.take 0) ⟨t, id⟩) (.slice none 0 0)) := ⟨Below.refl _ _, OwnR.nil _ _ _⟩
  go_enter Try.func25, Try.ntmps25
  go_wp2
  clear hW
  go_loopw [5, 6] (fun v5 v6 wr => ∃ (k : Nat) (q0 : Option Addr) (n0 c0 : Nat), k ≤ n ∧ v6 = .int .i64 k ∧ v5 = .slice q0 n0 c0 ∧ Hid (AccRel W wr (outL (l.take k) ⟨t, id⟩) (.slice q0 n0 c0))) (fun _ v6 _ => n - (intOf v6).toNat)
  case atStart => exact ⟨0, none, 0, 0, Nat.zero_le _, rfl, rfl, hr0⟩
  case round =>
    obtain ⟨k, q0, n0, c0, hk, rfl, rfl, hrl⟩ := hrel
    by_cases hlt : k < n
    · obtain ⟨a, ⟨⟨pt, pid⟩, pv, ps⟩, rfl, hx, hok, hc⟩ := (hrr.out.below hrl.out.1 (Nat.le_refl _)).at hlt
      have hcell : Hid (∀ j x, ([.int .i64 pt, .int .u16 pid, .int .i64 pv, .string ps] : List Value)[j]? = some x → wr.cell? ((a.add (k * 4)).add j) = some x) := hc
      have p0 : wr.cell? (a.add (k * 4)) = some (.int .i64 pt) := by have h := hc 0 _ rfl; rwa [add0] at h
      have p1 : wr.cell? ⟨(a.add (k * 4)).block, (a.add (k * 4)).off + 1, none⟩ = some (.int .u16 pid) := hc 1 _ rfl
      have b0 := (hbx.out.2.1.below hrl.out.1 (Nat.le_refl _)).cell 0 rfl
      have b1 := (hbx.out.2.1.below hrl.out.1 (Nat.le_refl _)).cell 1 rfl
      have hx' := Lib.hid hx
      have hok' := Lib.hid hok
      have hs2 := sizeRow pt pid pv ps
      have i0 : (0 : Int) ≤ k := by omega
      have i1 : (k : Int) < n := by omega
      have hn0 : n0 ≤ k := by rw [hrl.out.2.len]; exact gatL_len l _ k
      have heq := fun u => neq_keyY u pt pid t id
      obtain ⟨E, hE⟩ : ∃ E, eqK ⟨pt, pid⟩ ⟨t, id⟩ = E := ⟨_, rfl⟩
      rw [hE] at heq
      have hE' := Lib.hid hE
      clear hE hx hok hc
      cases E with
      | false =>
        have hst : Hid (outL (l.take (k + 1)) ⟨t, id⟩ = outL (l.take k) ⟨t, id⟩ ++ [⟨⟨pt, pid⟩, pv, ps⟩]) := by
          show outL _ _ = _
          unfold outL
          rw [gatL_step hx'.out, if_pos]
          unfold notP
          rw [show eqK (⟨⟨pt, pid⟩, pv, ps⟩ : RowD).key ⟨t, id⟩ = false from hE'.out]
          rfl
        go_wp2
        go_quiet (fail)
        rename_i nq
        obtain ⟨W1, hW1⟩ : ∃ W1, wr.drewN nq = W1 := ⟨_, rfl⟩
        have hd1 : Hid (Below wr.heap.size wr W1) := by rw [← hW1]; exact below_drewN _ _
        have hcell1 : Hid (∀ j x, ([.int .i64 pt, .int .u16 pid, .int .i64 pv, .string ps] : List Value)[j]? = some x → W1.cell? ((a.add (k * 4)).add j) = some x) := fun j x hj => cell_keeps hd1.out (Nat.le_refl _) (hcell.out j x hj)
        obtain ⟨W2, hW2⟩ : ∃ W2, W1.alloc (.cells #[.int .i64 pt, .int .u16 pid, .int .i64 pv, .string ps] 30) = W2 := ⟨_, rfl⟩
        have hb2 := Lib.hid (one_box (xs := [.int .i64 pt, .int .u16 pid, .int .i64 pv, .string ps]) hW2)
        have hb3 := Lib.hid (hd1.out.trans (hb2.out.1.mono hd1.out.size))
        have hrow : Hid (RowsOn W2 (some ⟨W1.heap.size, 0, none⟩) 1 1 [⟨⟨pt, pid⟩, pv, ps⟩]) := by
          have h0 := RowV.made (T := 30) W1 [.int .i64 pt, .int .u16 pid, .int .i64 pv, .string ps]
          rw [hW2] at h0
          exact RowV.rows1 (r := ⟨⟨pt, pid⟩, pv, ps⟩) h0 hok'.out
        have hown := Lib.hid (hrl.out.2.below hb3.out)
        have hsz : Hid (W.heap.size ≤ W2.heap.size) := Nat.le_trans hrl.out.1.size hb3.out.size
        have h40 : Hid ((n0 + 1) * 40 ≤ 140737488355328) := by show _ ≤ _; omega
        have h41 : Hid (n0 + 1 ≤ 140737488355328) := by show _ ≤ _; omega
        clear p0 p1 b0 b1
        go_wp2_with (first
          | (with_reducible refine wpList_load_at rfl 30 (.tmp 23) rfl Try.underlying30 rfl hs2 rfl hcell1.out ?_)
          | (at_builtin
             refine wpList_append_r Try.underlying22 infoRow rfl rfl (.tmp 20) (.tmp 25) rfl rfl rfl hown.out hrow.out h40.out h41.out hsz.out ?_
             intro q' c' w' h1 h2 h3
             have hnew : Hid (AccRel W w' (outL (l.take (k + 1)) ⟨t, id⟩) (.slice q' (n0 + 1) c')) := by
               rw [hst.out]
               exact hrl.out.hit hb3.out h1 h2
             clear h1 h2 h3))
        go_roundw
        case rel => exact ⟨k + 1, q', n0 + 1, c', by omega, by go_num, rfl, hnew⟩
        case measure => simp [intOf]; omega
      | true =>
        have hst : Hid (outL (l.take (k + 1)) ⟨t, id⟩ = outL (l.take k) ⟨t, id⟩) := by
          show outL _ _ = _
          unfold outL
          rw [gatL_step hx'.out, if_neg]
          unfold notP
          rw [show eqK (⟨⟨pt, pid⟩, pv, ps⟩ : RowD).key ⟨t, id⟩ = true from hE'.out]
          simp
        go_wp2
        go_quiet (fail)
        rename_i nq
        clear p0 p1 b0 b1
        go_wp2
        go_roundw
        case rel =>
          refine ⟨k + 1, q0, n0, c0, by omega, by go_num, rfl, ?_⟩
          have h := hrl.out.on (below_drewN wr nq)
          rw [← hst.out] at h
          exact h
        case measure => simp [intOf]; omega
    · obtain rfl : n = k := by omega
      have ho := hrl.out.2
      rw [List.take_of_length_le (by rw [hll.out]; exact Nat.le_refl _)] at ho
      have ho' := Lib.hid ho
      clear ho
      go_wp2
      go_ret
      exact ⟨q0, n0, c0, rfl, ho'.out.mono hbx.out.1.size, ho'.out.reads (gatL_ok hrr.out.ok), hbx.out.1.trans (hrl.out.1.mono hbx.out.1.size)⟩
end Go.Proofs.Ytaiepdhmlmnggaa
