/- Parts of the proof: The document's answers on rows: Compare, Right, KeyError, RowError, RightList; The document's Find and Of; Take of row -/
import Derived.Test.YtkdkncbccofpdaaQ05
import Derived.OrdersHeld
import Derived.Maps.RangeWalk
namespace Go.Proofs.Ytkdkncbccofpdaa
open Go.RowKit
theorem eq_key (w : World) (a b c d : Int) : (binOp .eql 28 (.agg #[.int .i64 a, .int .u16 b]) (.agg #[.int .i64 c, .int .u16 d])).run Try.prog w = .ok (.bool (eqK ⟨a, b⟩ ⟨c, d⟩)) w := by
 rw [run_eql_struct]
 have hS : Try.prog.underlying 28 = some (.struct (Try.prog.fieldsOf 28)) := by kernel_rfl
 have hp : Try.prog.stoodInHeld 28 = false := by kernel_rfl
 have u3 := Try.underlying3
 have u4 := Try.underlying26
 have a3 := Try.isAgg3
 have a4 := Try.isAgg26
 have z3 := Try.sizeOf3
 have z4 := Try.sizeOf26
 rw [show (10000 : Nat) = 9999 + 1 from rfl, run_equalIn_agg w 9999 28 _ _ hS hp]
 simp only [Program.fieldsOf, Try.underlying28]
 clear hS hp
 unfold eqK
 go_simp
 by_cases h1 : a = c <;> by_cases h2 : b = d <;> simp [h1, h2]
set_option maxRecDepth 100000 in
set_option maxHeartbeats 1000000 in
theorem refCompare_any (a b : Int) (c d : Int) (w : World) : Calls Try.prog 42 #[.agg #[.int .i64 a, .int .u16 b], .agg #[.int .i64 c, .int .u16 d]] w (fun e w' => e = .returned (.int .i64 (cmpK ⟨a, b⟩ ⟨c, d⟩)) ∧ Below w.heap.size w w') := by
 have heq := fun u => eq_key u a b c d
 have hb : Hid (Below w.heap.size w ((w.alloc (.cells #[.int .i64 a, .int .u16 b] 28)).alloc (.cells #[.int .i64 c, .int .u16 d] 28))) := ((Below.refl _ _).alloc (Nat.le_refl _) _).alloc (by simp) _
 rcases cmpK_cases ⟨a, b⟩ ⟨c, d⟩ with ⟨h1, e⟩ | ⟨h1, e⟩ | ⟨h1, ⟨h2, e⟩ | ⟨h2, e⟩ | ⟨h2, e⟩⟩
 · have h1' : a < c := h1
   rw [show eqK ⟨a, b⟩ ⟨c, d⟩ = false by rw [eqK_cmp, e]; rfl] at heq
   rw [e]
   clear e h1
   go_enter Try.func42, Try.ntmps42
   go_wp2
   go_ret
   exact ⟨rfl, hb.out⟩
 · have h1' : ¬ a < c := by have : c < a := h1; omega
   have h2' : ¬ a = c := by have : c < a := h1; omega
   rw [show eqK ⟨a, b⟩ ⟨c, d⟩ = false by rw [eqK_cmp, e]; rfl] at heq
   rw [e]
   clear e h1
   go_enter Try.func42, Try.ntmps42
   go_wp2
   go_ret
   exact ⟨rfl, hb.out⟩
 · obtain rfl : a = c := h1
   have h1' : b < d := h2
   rw [show eqK ⟨a, b⟩ ⟨a, d⟩ = false by rw [eqK_cmp, e]; rfl] at heq
   rw [e]
   clear e h2
   go_enter Try.func42, Try.ntmps42
   go_wp2
   go_ret
   exact ⟨rfl, hb.out⟩
 · obtain rfl : a = c := h1
   have h1' : ¬ b < d := by have : d < b := h2; omega
   rw [show eqK ⟨a, b⟩ ⟨a, d⟩ = false by rw [eqK_cmp, e]; rfl] at heq
   rw [e]
   clear e h2
   go_enter Try.func42, Try.ntmps42
   go_wp2
   go_ret
   exact ⟨rfl, hb.out⟩
 · obtain rfl : a = c := h1
   obtain rfl : b = d := h2
   rw [show eqK ⟨a, b⟩ ⟨a, b⟩ = true by rw [eqK_cmp, e]; rfl] at heq
   rw [e]
   clear e
   go_enter Try.func42, Try.ntmps42
   go_wp2
   go_ret
   exact ⟨rfl, hb.out⟩
set_option maxHeartbeats 1000000 in
theorem keyError_any (q : Option Addr) (n c : Nat) (bs : List BdD) (t id : Int) (w : World) (hl : bs.length = n) :
 Calls Try.prog 40 #[.agg #[.slice q n c], .agg #[.int .i64 t, .int .u16 id]] w (fun e w' => e = .returned (.int .i64 (keyE bs ⟨t, id⟩)) ∧ Below w.heap.size w w') := by
 rcases keyE_or bs ⟨t, id⟩ with ⟨h1, h2, e⟩ | ⟨h1, e⟩
 · have h1' : 0 ≤ t := h1
   have h2' : t < (n : Int) := by rw [← hl]; exact h2
   have h3' : ¬ t < 0 := by omega
   rw [e]
   clear e h1 h2 hl
   go_enter Try.func40, Try.ntmps40
   go_wp2
   go_ret
   exact ⟨rfl, by go_grown⟩
 · rw [e]
   clear e
   by_cases h0 : t < 0
   · clear h1 hl
     go_enter Try.func40, Try.ntmps40
     go_wp2
     go_ret
     exact ⟨rfl, by go_grown⟩
   · have h2' : (n : Int) ≤ t := by rw [← hl]; exact h1.resolve_left h0
     have h0' : 0 ≤ t := by omega
     clear h1 hl
     go_enter Try.func40, Try.ntmps40
     go_wp2
     go_ret
     exact ⟨rfl, by go_grown⟩
set_option maxRecDepth 100000 in
set_option maxHeartbeats 2000000 in
theorem right_any (q : Option Addr) (n c : Nat) (bs : List BdD) (w : World) (h : SchOn w q n c bs) :
 Calls Try.prog 14 #[.agg #[.slice q n c]] w (fun e w' => e = .returned (.bool (okS bs)) ∧ Below w.heap.size w w') := by
 have hl := h.len
 have hm := Nat.le_trans h.le h.cap
 unfold maxLen at hm
 obtain ⟨W, hW⟩ : ∃ W, w.alloc (.cells #[.slice q n c] 24) = W := ⟨_, rfl⟩
 have hbx := Lib.hid (one_box (xs := [.slice q n c]) hW)
 have h1 := Lib.hid (h.below hbx.out.1 (Nat.le_refl _))
 have e0 := hbx.out.2.1.cell 0 rfl
 clear h
 by_cases hn : 1 ≤ n ∧ n ≤ 3
 · obtain ⟨ha, hb⟩ := hn
   have hS0 : Hid ((∀ (i : Nat) (b : BdD), i < n → bs[i]? = some b → b.lo ≤ b.hi) → okS bs = true) := fun hk => (okS_iff bs).2 ⟨by omega, by omega, fun i b hi => hk i b (by have := (List.getElem?_eq_some_iff.1 hi).1; omega) hi⟩
   have hS1 : Hid (∀ (i : Nat) (b : BdD), bs[i]? = some b → ¬ b.lo ≤ b.hi → okS bs = false) := fun i b hi hlt => by
    cases ho : okS bs with
    | false => rfl
    | true => exact absurd (((okS_iff bs).1 ho).2.2 i b hi) hlt
   obtain ⟨E, hE⟩ : ∃ E, okS bs = E := ⟨_, rfl⟩
   rw [hE] at hS0 hS1 ⊢
   have hr0 : Hid (ChkRel W W bs 0) := ⟨Below.refl _ _, fun i b hi => by omega⟩
   clear hE hl
   go_enter Try.func14, Try.ntmps14
   go_wp2
   clear hW
   go_loopw [3] (fun v3 wr => ∃ k : Nat, k ≤ n ∧ v3 = .int .i64 k ∧ Hid (ChkRel W wr bs k)) (fun v3 _ => n - (intOf v3).toNat)
   case atStart => exact ⟨0, Nat.zero_le _, rfl, hr0⟩
   case round =>
    obtain ⟨k, hk, rfl, hr⟩ := hrel
    have s0 := (hbx.out.2.1.below hr.out.1 (Nat.le_refl _)).cell 0 rfl
    by_cases hlt : k < n
    · obtain ⟨a, ⟨lo, hi⟩, rfl, hx, hok, hc⟩ := (h1.out.below hr.out.1 (Nat.le_refl _)).at hlt
      have c0 : wr.cell? (a.add (k * 2)) = some (.int .i64 lo) := by have h := hc 0 _ rfl; rwa [add0] at h
      have c1 : wr.cell? ⟨(a.add (k * 2)).block, (a.add (k * 2)).off + 1, none⟩ = some (.int .i64 hi) := hc 1 _ rfl
      have hx' := Lib.hid hx
      have i0 : (0 : Int) ≤ k := by omega
      have i1 : (k : Int) < n := by omega
      clear hc hx hok
      by_cases hle : lo ≤ hi
      · have hng : ¬ hi < lo := by omega
        go_wp2
        go_quiet (fail)
        clear c0 c1
        go_wp2
        go_roundw
        case rel =>
         refine ⟨k + 1, by omega, by go_num, ⟨hr.out.1.trans ((below_drewN _ _).mono hr.out.1.size), fun i b hi hb => ?_⟩⟩
         rcases Nat.lt_or_ge i k with h | h
         · exact hr.out.2 i b h hb
         · obtain rfl : i = k := by omega
           rw [hx'.out] at hb; cases hb; exact hle
        case measure => simp [intOf]; omega
      · have hgt : hi < lo := by omega
        go_wp2
        go_quiet (fail)
        clear c0 c1
        go_wp2
        go_ret
        exact ⟨by rw [hS1.out k _ hx'.out hle]; rfl, hbx.out.1.trans ((hr.out.1.trans ((below_drewN _ _).mono hr.out.1.size)).mono hbx.out.1.size)⟩
    · obtain rfl : n = k := by omega
      go_wp2
      go_ret
      exact ⟨by rw [hS0.out hr.out.2]; rfl, hbx.out.1.trans (hr.out.1.mono hbx.out.1.size)⟩
 · have hS : okS bs = false := by
    cases ho : okS bs with
    | false => rfl
    | true => exact absurd ⟨by rw [← hl]; exact ((okS_iff bs).1 ho).1, by rw [← hl]; exact ((okS_iff bs).1 ho).2.1⟩ hn
   rw [hS]
   clear hS hl
   by_cases h0 : n < 1
   · go_enter Try.func14, Try.ntmps14
     go_wp2
     go_ret
     exact ⟨rfl, hbx.out.1⟩
   · have h3 : 3 < n := by omega
     go_enter Try.func14, Try.ntmps14
     go_wp2
     go_ret
     exact ⟨rfl, hbx.out.1⟩
end Go.Proofs.Ytkdkncbccofpdaa
namespace Go.Proofs.Ytkdkncbccofpdaa
open Go.RowKit
def findAt (l : List RowD) (k : KeyD) : Int := match findK l k with | some i => i | none => -1
set_option maxRecDepth 100000 in
set_option maxHeartbeats 2000000 in
theorem refFind_any (q : Option Addr) (n c : Nat) (l : List RowD) (t id : Int) (w : World) (hr : RowsOn w q n c l) (hn : n ≤ 4611686018427387904) :
 Calls Try.prog 43 #[.slice q n c, .agg #[.int .i64 t, .int .u16 id]] w (fun e w' => e = .returned (.int .i64 (findAt l ⟨t, id⟩)) ∧ Below w.heap.size w w') := by
 obtain ⟨W, hW⟩ : ∃ W, w.alloc (.cells #[.int .i64 t, .int .u16 id] 28) = W := ⟨_, rfl⟩
 have hbx := Lib.hid (one_box (xs := [.int .i64 t, .int .u16 id]) hW)
 have hrr := Lib.hid (hr.below hbx.out.1 (Nat.le_refl _))
 have hll := Lib.hid hr.len
 have hm := Nat.le_trans hr.le hr.cap
 unfold maxLen at hm
 clear hr
 have hr0 : Hid (FndRel W W l ⟨t, id⟩ 0) := ⟨Below.refl _ _, fun i r hi => by omega⟩
 go_enter Try.func43, Try.ntmps43
 go_wp2
 clear hW
 go_loopw [5] (fun v5 wr => ∃ k : Nat, k ≤ n ∧ v5 = .int .i64 k ∧ Hid (FndRel W wr l ⟨t, id⟩ k)) (fun v5 _ => n - (intOf v5).toNat)
 case atStart => exact ⟨0, Nat.zero_le _, rfl, hr0⟩
 case round =>
  obtain ⟨k, hk, rfl, hrl⟩ := hrel
  by_cases hlt : k < n
  · obtain ⟨a, ⟨⟨pt, pid⟩, pv, ps⟩, rfl, hx, hok, hc⟩ := (hrr.out.below hrl.out.1 (Nat.le_refl _)).at hlt
    have c0 : wr.cell? (a.add (k * 4)) = some (.int .i64 pt) := by have h := hc 0 _ rfl; rwa [add0] at h
    have c1 : wr.cell? ⟨(a.add (k * 4)).block, (a.add (k * 4)).off + 1, none⟩ = some (.int .u16 pid) := hc 1 _ rfl
    have b0 := (hbx.out.2.1.below hrl.out.1 (Nat.le_refl _)).cell 0 rfl
    have b1 := (hbx.out.2.1.below hrl.out.1 (Nat.le_refl _)).cell 1 rfl
    have hx' := Lib.hid hx
    have i0 : (0 : Int) ≤ k := by omega
    have i1 : (k : Int) < n := by omega
    have heq := fun u => eq_key u pt pid t id
    obtain ⟨E, hE⟩ : ∃ E, eqK ⟨pt, pid⟩ ⟨t, id⟩ = E := ⟨_, rfl⟩
    rw [hE] at heq
    have hE' := Lib.hid hE
    clear hE hx hok hc
    cases E with
    | true =>
      have hfk := Lib.hid (findK_some hx'.out hE'.out (fun j x hj hxj => hrl.out.2 j x hj hxj))
      go_wp2
      go_quiet (fail)
      clear c0 c1 b0 b1
      go_wp2
      go_ret
      exact ⟨ret_i (by unfold findAt; rw [hfk.out]), hbx.out.1.trans ((hrl.out.1.trans ((below_drewN _ _).mono hrl.out.1.size)).mono hbx.out.1.size)⟩
    | false =>
      go_wp2
      go_quiet (fail)
      clear c0 c1 b0 b1
      go_wp2
      go_roundw
      case rel =>
       refine ⟨k + 1, by omega, by go_num, hrl.out.1.trans ((below_drewN _ _).mono hrl.out.1.size), fun i r hi hr => ?_⟩
       rcases Nat.lt_or_ge i k with h | h
       · exact hrl.out.2 i r h hr
       · obtain rfl : i = k := by omega
         rw [hx'.out] at hr; cases hr; exact hE'.out
      case measure => simp [intOf]; omega
  · obtain rfl : n = k := by omega
    have hfk := Lib.hid (findK_none (l := l) (k := ⟨t, id⟩) fun j x hj => hrl.out.2 j x (by have := (List.getElem?_eq_some_iff.1 hj).1; rw [hll.out] at this; exact this) hj)
    go_wp2
    go_ret
    exact ⟨ret_i (by unfold findAt; rw [hfk.out]), hbx.out.1.trans (hrl.out.1.mono hbx.out.1.size)⟩
set_option maxRecDepth 100000 in
set_option maxHeartbeats 2000000 in
theorem refOf_any (q : Option Addr) (n c : Nat) (l : List RowD) (t : Int) (w : World) (hr : RowsOn w q n c l) (hn : n ≤ 1000000) :
 Calls Try.prog 45 #[.slice q n c, .int .i64 t] w (RowsPost w (ofL l t)) := by
 have hrr := Lib.hid hr
 have hll := Lib.hid hr.len
 clear hr
 have hr0 : Hid (OfRel w w l t 0 (.slice none 0 0)) := ⟨Below.refl _ _, OwnR.nil _ _ _⟩
 go_enter Try.func45, Try.ntmps45
 go_wp2
 go_loopw [5, 6] (fun v5 v6 wr => ∃ (k : Nat) (q0 : Option Addr) (n0 c0 : Nat), k ≤ n ∧ v6 = .int .i64 k ∧ v5 = .slice q0 n0 c0 ∧ Hid (OfRel w wr l t k (.slice q0 n0 c0))) (fun _ v6 _ => n - (intOf v6).toNat)
 case atStart => exact ⟨0, none, 0, 0, Nat.zero_le _, rfl, rfl, hr0⟩
 case round =>
  obtain ⟨k, q0, n0, c0, hk, rfl, rfl, hrl⟩ := hrel
  by_cases hlt : k < n
  · obtain ⟨a, ⟨⟨pt, pid⟩, pv, ps⟩, rfl, hx, hok, hc⟩ := (hrr.out.below hrl.out.1 (Nat.le_refl _)).at hlt
    have hcell : Hid (∀ j x, ([.int .i64 pt, .int .u16 pid, .int .i64 pv, .string ps] : List Value)[j]? = some x → wr.cell? ((a.add (k * 4)).add j) = some x) := hc
    have p0 : wr.cell? (a.add (k * 4)) = some (.int .i64 pt) := by have h := hc 0 _ rfl; rwa [add0] at h
    have hx' := Lib.hid hx
    have hok' := Lib.hid hok
    have hs2 := sizeRow pt pid pv ps
    have i0 : (0 : Int) ≤ k := by omega
    have i1 : (k : Int) < n := by omega
    have hn0 : n0 ≤ k := by rw [hrl.out.2.len]; exact ofL_len l t k
    clear hx hok hc
    by_cases he : pt = t
    · obtain rfl : t = pt := he.symm
      clear he
      obtain ⟨W2, hW2⟩ : ∃ W2, wr.alloc (.cells #[.int .i64 t, .int .u16 pid, .int .i64 pv, .string ps] 68) = W2 := ⟨_, rfl⟩
      have hb2 := Lib.hid (one_box (xs := [.int .i64 t, .int .u16 pid, .int .i64 pv, .string ps]) hW2)
      have hrow : Hid (RowsOn W2 (some ⟨wr.heap.size, 0, none⟩) 1 1 [⟨⟨t, pid⟩, pv, ps⟩]) := by
       have h0 := RowV.made (T := 68) wr [.int .i64 t, .int .u16 pid, .int .i64 pv, .string ps]
       rw [hW2] at h0
       exact RowV.rows1 (r := ⟨⟨t, pid⟩, pv, ps⟩) h0 hok'.out
      have hown := Lib.hid (hrl.out.2.below hb2.out.1)
      have hsz : Hid (w.heap.size ≤ W2.heap.size) := Nat.le_trans hrl.out.1.size hb2.out.1.size
      have h40 : Hid ((n0 + 1) * 40 ≤ 140737488355328) := by show _ ≤ _; omega
      have h41 : Hid (n0 + 1 ≤ 140737488355328) := by show _ ≤ _; omega
      go_wp2_with (first
       | (with_reducible refine wpList_load_at rfl 68 (.tmp 24) rfl Try.underlying68 rfl hs2 rfl hcell.out ?_)
       | (at_builtin
          refine wpList_append_r Try.underlying25 infoRow rfl rfl (.tmp 21) (.tmp 26) rfl rfl rfl hown.out hrow.out h40.out h41.out hsz.out ?_
          intro q' c' w' h1 h2 h3
          have hnew := Lib.hid (hrl.out.hit hx'.out (by simp) hb2.out.1 h1 h2)
          clear h1 h2 h3))
      go_roundw
      case rel => exact ⟨k + 1, q', n0 + 1, c', by omega, by go_num, rfl, hnew⟩
      case measure => simp [intOf]; omega
    · have he2 : (pt == t) = false := by simpa using he
      have hnew := Lib.hid (hrl.out.miss hx'.out (by simpa using he) (Below.refl _ _))
      go_wp2
      go_roundw
      case rel => exact ⟨k + 1, q0, n0, c0, by omega, by go_num, rfl, hnew⟩
      case measure => simp [intOf]; omega
  · obtain rfl : n = k := by omega
    have ho := hrl.out.2
    rw [List.take_of_length_le (by rw [hll.out]; exact Nat.le_refl _)] at ho
    have ho' := Lib.hid ho
    clear ho
    go_wp2
    go_ret
    exact ⟨q0, n0, c0, rfl, ho'.out, ho'.out.reads (ofL_ok hrr.out.ok), hrl.out.1⟩
end Go.Proofs.Ytkdkncbccofpdaa
namespace Go.Proofs.Ytkdkncbccofpdaa
open Go.RowKit
def zeroR : RowD := ⟨⟨0, 0⟩, 0, ⟨#[]⟩⟩
def takeE (bs : List BdD) (l : List RowD) (k : KeyD) : Int := if chkList bs l = 0 then (if keyE bs k = 0 then (if atB l k (posK l k) = true then 0 else 4) else keyE bs k) else chkList bs l
def takeL (bs : List BdD) (l : List RowD) (k : KeyD) : List RowD := if takeE bs l k = 0 then l.take (posK l k) ++ l.drop (posK l k + 1) else []
def takeX (bs : List BdD) (l : List RowD) (k : KeyD) : RowD := if takeE bs l k = 0 then (l[posK l k]?).getD zeroR else zeroR
def rowV (r : RowD) : Value := .agg #[.int .i64 r.key.t, .int .u16 r.key.id, .int .i64 r.val, .string r.note]
def TakePost (bs : List BdD) (l : List RowD) (k : KeyD) (w : World) (e : Ending) (w' : World) : Prop :=
 ∃ q' m' c', e = .returned (.tuple #[.slice q' m' c', rowV (takeX bs l k), .int .i64 (takeE bs l k)]) ∧ RowsOn w' q' m' c' (takeL bs l k) ∧ Below w.heap.size w w' ∧ OwnR 68 w' w.heap.size (.slice q' m' c') (takeL bs l k)
theorem run_store_op {P : Program} {o : Oper} {a : Act} {w w' : World} {ty : TypeId} {x y : Operand} {ad : Addr} {v : Value} (ho : o.op = .store ty x y) (hx : a.eval x = .pointer (some ad)) (hy : a.eval y = v) (h : (storeVar ty ad v).run P w = .ok () w') : (execOp a.eval o).run P w = .ok .skip w' := by
 subst hy
 unfold execOp
 simp only [ho, hx, Instr.storeAt, Instr.sureAddr, Sem.run_bind, Sem.run_pure, Result.andThen_ok, h]
theorem block_add (a : Addr) (n : Nat) : (a.add n).block = a.block := by unfold Addr.add; split <;> rfl
theorem RowsOn.other {w w' : World} {q : Option Addr} {n c g : Nat} {l : List RowD} (h : RowsOn w q n c l) (hg : w.grownBy w' (some g)) (hne : ∀ a, q = some a → a.block ≠ g) : RowsOn w' q n c l :=
 ⟨h.len, h.le, h.cap, h.nil, fun i r hi => by
  obtain ⟨a, rfl, hc⟩ := h.get i r hi
  refine ⟨a, rfl, fun j x hj => ?_⟩
  have h1 := hc j x hj
  rw [World.cell?_of_block (w := w) (hg.block _ (cell_in h1) (fun e => hne a rfl (by simpa [block_add] using e)))]
  exact h1, h.ok⟩
theorem three_boxes {w W : World} {T1 T2 T3 : TypeId} {xs ys zs : List Value} (h : ((w.alloc (.cells xs.toArray T1)).alloc (.cells ys.toArray T2)).alloc (.cells zs.toArray T3) = W) : Below w.heap.size w W ∧ Boxed W w.heap.size xs ∧ Boxed W (w.heap.size + 1) ys ∧ RowV T3 W (w.heap.size + 2) zs ∧ W.heap.size = w.heap.size + 3 := by
 obtain ⟨W2, h2⟩ : ∃ W2, (w.alloc (.cells xs.toArray T1)).alloc (.cells ys.toArray T2) = W2 := ⟨_, rfl⟩
 obtain ⟨b1, b2, b3, b4⟩ := two_boxes h2
 rw [h2] at h
 subst h
 have hb : Below W2.heap.size W2 (W2.alloc (.cells zs.toArray T3)) := (Below.refl _ _).alloc (Nat.le_refl _) _
 refine ⟨b1.trans (hb.mono b1.size), b2.below hb (Nat.le_refl _), b3.below hb (Nat.le_refl _), ?_, by simp [b4]⟩
 rw [← b4]
 exact RowV.made W2 zs
set_option maxRecDepth 100000 in
set_option maxHeartbeats 2000000 in
theorem take_any (q : Option Addr) (n c : Nat) (bs : List BdD) (lq : Option Addr) (ln lc : Nat) (l : List RowD) (t id : Int) (w : World) (h : SchOn w q n c bs) (hr : RowsOn w lq ln lc l) :
 Calls Try.prog 89 #[.agg #[.slice q n c], .slice lq ln lc, .agg #[.int .i64 t, .int .u16 id]] w (TakePost bs l ⟨t, id⟩ w) := by
 obtain ⟨W, hW⟩ : ∃ W, ((w.alloc (.cells #[.slice q n c] 24)).alloc (.cells #[.int .i64 t, .int .u16 id] 28)).alloc (.cells #[.int .i64 0, .int .u16 0, .int .i64 0, .string ⟨#[]⟩] 68) = W := ⟨_, rfl⟩
 have hbx := Lib.hid (three_boxes (xs := [.slice q n c]) (ys := [.int .i64 t, .int .u16 id]) (zs := [.int .i64 0, .int .u16 0, .int .i64 0, .string ⟨#[]⟩]) hW)
 have hs1 := sizeSch q n c
 have hs2 := sizeKey t id
 have hs0 := sizeRow 0 0 0 ⟨#[]⟩
 have e1 := Lib.hid hbx.out.2.1
 have hsc := Lib.hid (h.below hbx.out.1 (Nat.le_refl _))
 have hrr := Lib.hid (hr.below hbx.out.1 (Nat.le_refl _))
 have hcl := Lib.hid (checkList_any q n c bs lq ln lc l W hsc.out hrr.out)
 obtain ⟨eL, hL⟩ : ∃ x, chkList bs l = x := ⟨_, rfl⟩
 rw [hL] at hcl
 have hL' := Lib.hid hL
 have hlow : Hid (0 < ln → ∀ a, lq = some a → a.block < w.heap.size) := fun h0 a ha => by
  obtain ⟨a', x, ha', _, _, hc⟩ := hr.at h0
  rw [ha] at ha'; cases ha'
  have := cell_in (hc 0 _ rfl)
  rwa [block_add, block_add] at this
 clear h hr hL
 have z1 : ∀ v ∈ ([.int .i64 0, .int .u16 0, .int .i64 0, .string ⟨#[]⟩] : List Value), v.oneCell' = true := RowD.one zeroR
 by_cases hz : eL = 0
 · subst hz
   have hll := Lib.hid hrr.out.len
   have hns := Lib.hid (chkList_zero hL'.out).2
   have hn60 : ln ≤ 60 := by rw [← hll.out]; exact ((okL_iff bs l).1 hns.out).1
   obtain ⟨eK, hK⟩ : ∃ x, keyE bs ⟨t, id⟩ = x := ⟨_, rfl⟩
   have hK' := Lib.hid hK
   clear hK
   by_cases hz2 : eK = 0
   · subst hz2
     obtain ⟨B, hBv⟩ : ∃ B, atB l ⟨t, id⟩ (posK l ⟨t, id⟩) = B := ⟨_, rfl⟩
     have hBv' := Lib.hid hBv
     clear hBv
     cases B with
     | true =>
       have hE : takeE bs l ⟨t, id⟩ = 0 := by unfold takeE; rw [if_pos hL'.out, if_pos hK'.out, if_pos hBv'.out]
       have hE' := Lib.hid hE
       clear hE
       go_enter Try.func89, Try.ntmps89
       go_wp2_with (first
        | (with_reducible refine wpList_load_at rfl 24 (.tmp 3) rfl Try.underlying24 rfl hs1 rfl e1.out.all ?_)
        | (go_at_call 28; refine hcl.out.mono ?_; rintro e w1 ⟨rfl, hb1⟩; have hb := Lib.hid (hbx.out.1.trans (hb1.mono hbx.out.1.size)); have hrz := Lib.hid (hbx.out.2.2.2.1.below hb1); have hb1' := Lib.hid hb1; have f1 := Lib.hid (hbx.out.2.1.below hb1 (Nat.le_refl _)); have f2 := Lib.hid (hbx.out.2.2.1.below hb1 (Nat.le_refl _)); clear hb1)
        | (with_reducible refine wpList_load_at rfl 24 (.tmp 3) rfl Try.underlying24 rfl hs1 rfl f1.out.all ?_)
        | (with_reducible refine wpList_load_at rfl 28 (.tmp 5) rfl Try.underlying28 rfl hs2 rfl f2.out.all ?_)
        | (go_at_call 53
           refine (must1_any q n c bs t id 0 _ _ _ ((hsc.out.below hb1'.out (Nat.le_refl _)).below ((Below.refl _ _).alloc (Nat.le_refl _) _) (Nat.le_refl _)) (Boxed.made w1 [fnV 54])).mono ?_
           rintro e w2 ⟨rfl, hb3⟩
           rw [hK'.out]
           have hb3' := Lib.hid (((Below.refl w1.heap.size w1).alloc (Nat.le_refl _) (.cells #[fnV 54] 102)).trans (hb3.mono (by simp)))
           have hb4 := Lib.hid (hb.out.trans (hb3'.out.mono hb.out.size))
           have g2 := Lib.hid (f2.out.below hb3'.out (Nat.le_refl _))
           have gz := Lib.hid (hrz.out.below hb3'.out)
           have hr2 := Lib.hid ((hrr.out.below hb1'.out (Nat.le_refl _)).below hb3'.out (Nat.le_refl _))
           clear hb3)
        | (with_reducible refine wpList_load_at rfl 28 (.tmp 5) rfl Try.underlying28 rfl hs2 rfl g2.out.all ?_)
        | (go_at_call 94
           refine (search_any lq ln lc l t id w2 hr2.out (okL_rising hns.out) (by omega)).mono ?_
           rintro e w3 ⟨j, rfl, hp, hb5⟩
           have hj := Lib.hid (posK_place hp)
           have hb6 := Lib.hid (hb4.out.trans (hb5.mono hb4.out.size))
           have kz := Lib.hid (gz.out.below hb5)
           have hr3 := Lib.hid (hr2.out.below hb5 (Nat.le_refl _))
           have hAt := Lib.hid (show atB l ⟨t, id⟩ j = true by rw [← hj.out]; exact hBv'.out)
           rw [hAt.out]
           have hjb : j ≤ 60 := by have := hp.le; rw [hll.out] at this; omega
           clear hp hb5))
       have hjl : j < ln := by have h := atB_lt hAt.out; rw [hll.out] at h; exact h
       have hcut := Lib.hid (spliced_cut lq ln lc j l w3.drew (hr3.out.below (below_drew w3) (Nat.le_refl _)) hjl (by omega))
       obtain ⟨A, x, hqA, hx, hok, hc⟩ := hr3.out.at hjl
       have hAne : Hid (A.block ≠ w.heap.size + 2) := by show A.block ≠ _; have := hlow.out (by omega) A hqA; omega
       subst hqA
       have hx' := Lib.hid hx
       have hcc := Lib.hid hc
       clear hx hok hc
       obtain ⟨⟨xt, xi⟩, xv, xs⟩ := x
       have hs3 := sizeRow xt xi xv xs
       have hS0 : Hid (∀ j' v, ([.int .i64 xt, .int .u16 xi, .int .i64 xv, .string xs] : List Value)[j']? = some v → w3.drew.cell? ((A.add (j * 4)).add j') = some v) := hcc.out
       have i0 : (0 : Int) ≤ j := by omega
       have i1 : (j : Int) < ln := by omega
       have i2 : IntKind.i64.wrap ((j : Int) + 1) = (j : Int) + 1 := IntWalk.i64_in _ (by omega)
       refine wp_region_held (S := fun u => ∀ j' v, ([.int .i64 xt, .int .u16 xi, .int .i64 xv, .string xs] : List Value)[j']? = some v → u.cell? ((A.add (j * 4)).add j') = some v) (by kernel_rfl) ?_
       change wpAnyH _ _ _ _ _ _ _ _ (World.drew w3)
       refine held_take (i := 0) (dst := some 38) rfl rfl (by kernel_rfl) (by kernel_rfl) (by kernel_rfl) (fun _ _ _ h => h) (y_move (.tmp 1) rfl rfl rfl) hS0.out ?_
       go_frame
       refine held_take (i := 1) (dst := some 39) rfl rfl (by kernel_rfl) (by kernel_rfl) (by kernel_rfl) (fun _ _ _ h => h) (y_move (.tmp 11) rfl rfl rfl) hS0.out ?_
       go_frame
       refine held_take (i := 2) (dst := some 40) rfl rfl (by kernel_rfl) (by kernel_rfl) (by kernel_rfl) (fun _ _ _ h => h) (y_move (.tmp 11) rfl rfl rfl) hS0.out ?_
       go_frame
       refine held_take (i := 3) (dst := some 41) (v := .int .i64 ((j : Int) + 1)) rfl rfl (by kernel_rfl) (by kernel_rfl) (by kernel_rfl) (fun _ _ _ h => h) (.inl ⟨rfl, fun W _ => by go_simp⟩) hS0.out ?_
       go_frame
       refine held_take (i := 5) (dst := some 43) rfl rfl (by kernel_rfl) (by kernel_rfl) (by kernel_rfl) (fun _ _ _ h => h) (y_move (.tmp 1) rfl rfl rfl) hS0.out ?_
       go_frame
       refine held_take (i := 6) (dst := some 44) rfl rfl (by kernel_rfl) (by kernel_rfl) (by kernel_rfl) (fun _ _ _ h => h) (y_move (.tmp 11) rfl rfl rfl) hS0.out ?_
       go_frame
       refine held_take (i := 7) (dst := some 45) (v := .pointer (some (A.add (j * 4)))) rfl rfl (by kernel_rfl) (by kernel_rfl) (by kernel_rfl) (fun _ _ _ h => h) (.inl ⟨rfl, fun W _ => by go_simp⟩) hS0.out ?_
       go_frame
       refine held_take (i := 8) (dst := some 46) rfl rfl (by kernel_rfl) (by kernel_rfl) (by kernel_rfl) (fun _ _ _ h => h) (y_load_agg 68 (.tmp 45) rfl rfl rfl (fun W hW => run_loadVar_at Try.underlying68 rfl hs3 _ hW)) hS0.out ?_
       go_frame
       refine held_call (i := 4) (dst := some 42) rfl rfl (by kernel_rfl) rfl (by go_simp) hcut.out ?_
       rintro e w5 ⟨q5, c5, rfl, hr5, hb7, hq5, ho5⟩
       have ho6 := Lib.hid (OwnR.mono (b' := w.heap.size) ho5 hb6.out.size)
       have hS5 : Hid (∀ j' v, ([.int .i64 xt, .int .u16 xi, .int .i64 xv, .string xs] : List Value)[j']? = some v → w5.cell? ((A.add (j * 4)).add j') = some v) := fun j' v hj' => cell_keeps hb7 (Nat.le_refl _) (hS0.out j' v hj')
       have hr6 := Lib.hid hr5
       have hq6 : Hid (∀ a, q5 = some a → w3.heap.size ≤ a.block) := hq5
       have kz5 := Lib.hid ((kz.out.block (w' := w3.drew) rfl).below hb7)
       have hb8 := Lib.hid (hb6.out.trans (((below_drew w3).trans hb7).mono hb6.out.size))
       have hgz := Lib.hid kz.out.lt
       clear hr5 hb7 hq5 ho5
       refine ⟨_, rfl, hS5.out, ?_⟩
       go_frame
       refine held_value (i := 9) (dst := some 6) (w' := w5) (v := .slice q5 (ln - 1) c5) rfl rfl (by kernel_rfl) rfl (by go_simp) hS5.out ?_
       go_frame
       obtain ⟨w7, hst, h7, hg7⟩ := run_storeVar_at (P := Try.prog) (ty := 68) (o := 0) (vs := [.int .i64 xt, .int .u16 xi, .int .i64 xv, .string xs]) kz5.out hs3 (Nat.le_refl _) (RowD.one ⟨⟨xt, xi⟩, xv, xs⟩)
       have hS7 : Hid (∀ j' v, ([.int .i64 xt, .int .u16 xi, .int .i64 xv, .string xs] : List Value)[j']? = some v → w7.cell? ((A.add (j * 4)).add j') = some v) := fun j' v hj' => by
        rw [World.cell?_of_block (w := w5) (hg7.block _ (cell_in (hS5.out j' v hj')) (fun e => hAne.out (by simpa [block_add] using e)))]
        exact hS5.out j' v hj'
       refine held_skip (i := 10) (dst := none) (w' := w7) rfl rfl (by kernel_rfl) rfl (run_store_op rfl rfl rfl hst) hS7.out ?_
       go_frame
       refine held_value (i := 11) (dst := some 8) (w' := w7) (v := .int .i64 0) rfl rfl (by kernel_rfl) rfl (by go_simp) hS7.out ?_
       go_frame
       refine wpAnyH_done (by kernel_rfl) ?_ _
       have s9 : RowV 68 w7 (w.heap.size + 2) [.int .i64 xt, .int .u16 xi, .int .i64 xv, .string xs] := h7
       have k0 := s9.cell 0
       have k1 := s9.cell 1
       have k2 := s9.cell 2
       have k3 := s9.cell 3
       simp only [List.getElem?_cons_zero, List.getElem?_cons_succ] at k0 k1 k2 k3
       have hg7' := Lib.hid hg7
       clear hg7 h7 hst i2
       go_wp2
       refine bodyPost_ret (v := .tuple #[.slice q5 (ln - 1) c5, rowV ⟨⟨xt, xi⟩, xv, xs⟩, .int .i64 0]) (by simp [results, Try.results89, go_sem, k0, k1, k2, k3, rowV]) rfl ?_
       have hbf := hb8.out.grown hg7'.out hb8.out.size (fun k e => by cases e; omega)
       refine ⟨_, _, _, by rw [show takeX bs l ⟨t, id⟩ = ⟨⟨xt, xi⟩, xv, xs⟩ by unfold takeX; rw [hE'.out, if_pos rfl, hj.out, hx'.out]; rfl, hE'.out], ?_, hbf, ?_⟩
       rotate_left
       · rw [show takeL bs l ⟨t, id⟩ = l.take j ++ l.drop (j + 1) by unfold takeL; rw [hE'.out, if_pos rfl, hj.out]]
         exact ho6.out.kept fun a ha => hg7'.out.block _ (ho6.out.far a ha).2 (fun e => by have := hq6.out a ha; have := hb6.out.size; have := hgz.out; simp at e; omega)
       rw [show takeL bs l ⟨t, id⟩ = l.take j ++ l.drop (j + 1) by unfold takeL; rw [hE'.out, if_pos rfl, hj.out]]
       exact hr6.out.other hg7'.out (fun a ha => by have := hq6.out a ha; have := hb6.out.size; have := hgz.out; omega)
     | false =>
       have hE : takeE bs l ⟨t, id⟩ = 4 := by unfold takeE; rw [if_pos hL'.out, if_pos hK'.out, if_neg]; rw [hBv'.out]; simp
       have hE' := Lib.hid hE
       clear hE
       go_enter Try.func89, Try.ntmps89
       go_wp2_with (first
        | (with_reducible refine wpList_load_at rfl 24 (.tmp 3) rfl Try.underlying24 rfl hs1 rfl e1.out.all ?_)
        | (go_at_call 28; refine hcl.out.mono ?_; rintro e w1 ⟨rfl, hb1⟩; have hb := Lib.hid (hbx.out.1.trans (hb1.mono hbx.out.1.size)); have hrz := Lib.hid (hbx.out.2.2.2.1.below hb1); have hb1' := Lib.hid hb1; have f1 := Lib.hid (hbx.out.2.1.below hb1 (Nat.le_refl _)); have f2 := Lib.hid (hbx.out.2.2.1.below hb1 (Nat.le_refl _)); clear hb1)
        | (with_reducible refine wpList_load_at rfl 24 (.tmp 3) rfl Try.underlying24 rfl hs1 rfl f1.out.all ?_)
        | (with_reducible refine wpList_load_at rfl 28 (.tmp 5) rfl Try.underlying28 rfl hs2 rfl f2.out.all ?_)
        | (go_at_call 53
           refine (must1_any q n c bs t id 0 _ _ _ ((hsc.out.below hb1'.out (Nat.le_refl _)).below ((Below.refl _ _).alloc (Nat.le_refl _) _) (Nat.le_refl _)) (Boxed.made w1 [fnV 54])).mono ?_
           rintro e w2 ⟨rfl, hb3⟩
           rw [hK'.out]
           have hb3' := Lib.hid (((Below.refl w1.heap.size w1).alloc (Nat.le_refl _) (.cells #[fnV 54] 102)).trans (hb3.mono (by simp)))
           have hb4 := Lib.hid (hb.out.trans (hb3'.out.mono hb.out.size))
           have g2 := Lib.hid (f2.out.below hb3'.out (Nat.le_refl _))
           have gz := Lib.hid (hrz.out.below hb3'.out)
           have hr2 := Lib.hid ((hrr.out.below hb1'.out (Nat.le_refl _)).below hb3'.out (Nat.le_refl _))
           clear hb3)
        | (with_reducible refine wpList_load_at rfl 28 (.tmp 5) rfl Try.underlying28 rfl hs2 rfl g2.out.all ?_)
        | (go_at_call 94
           refine (search_any lq ln lc l t id w2 hr2.out (okL_rising hns.out) (by omega)).mono ?_
           rintro e w3 ⟨j, rfl, hp, hb5⟩
           have hj := Lib.hid (posK_place hp)
           have hb6 := Lib.hid (hb4.out.trans (hb5.mono hb4.out.size))
           have kz := Lib.hid (gz.out.below hb5)
           have hr3 := Lib.hid (hr2.out.below hb5 (Nat.le_refl _))
           have hAt := Lib.hid (show atB l ⟨t, id⟩ j = false by rw [← hj.out]; exact hBv'.out)
           rw [hAt.out]
           have hjb : j ≤ 60 := by have := hp.le; rw [hll.out] at this; omega
           clear hp hb5)
        | ((with_reducible refine wpList_store_at rfl 68 (.tmp 7) (.tmp 37) rfl (o := 0) rfl rfl kz.out hs0 (Nat.le_refl _) z1 ?_)
           intro w9 h9 hg9
           have r9 := Lib.hid h9
           have hg9' := Lib.hid hg9
           clear h9 hg9))
       have s9 : RowV 68 w9 (w.heap.size + 2) [.int .i64 0, .int .u16 0, .int .i64 0, .string ⟨#[]⟩] := r9.out
       have k0 := s9.cell 0
       have k1 := s9.cell 1
       have k2 := s9.cell 2
       have k3 := s9.cell 3
       simp only [List.getElem?_cons_zero, List.getElem?_cons_succ] at k0 k1 k2 k3
       refine bodyPost_ret (v := .tuple #[.slice none 0 0, rowV zeroR, .int .i64 (takeE bs l ⟨t, id⟩)]) (by rw [hE'.out]; simp [results, Try.results89, go_sem, k0, k1, k2, k3, rowV, zeroR]) rfl ?_
       refine ⟨_, _, _, by rw [show takeX bs l ⟨t, id⟩ = zeroR by unfold takeX; rw [hE'.out, if_neg (by decide)]], by rw [show takeL bs l ⟨t, id⟩ = [] by unfold takeL; rw [hE'.out, if_neg (by decide)]]; exact RowsOn.none_ _, ?_, by rw [show takeL bs l ⟨t, id⟩ = [] by unfold takeL; rw [hE'.out, if_neg (by decide)]]; exact OwnR.nil _ _ _⟩
       exact hb6.out.grown hg9'.out hb6.out.size (fun k e => by cases e; omega)
   · have hE : takeE bs l ⟨t, id⟩ = eK := by unfold takeE; rw [if_pos hL'.out, hK'.out, if_neg hz2]
     have hE' := Lib.hid hE
     clear hE
     go_enter Try.func89, Try.ntmps89
     go_wp2_with (first
      | (with_reducible refine wpList_load_at rfl 24 (.tmp 3) rfl Try.underlying24 rfl hs1 rfl e1.out.all ?_)
      | (go_at_call 28; refine hcl.out.mono ?_; rintro e w1 ⟨rfl, hb1⟩; have hb := Lib.hid (hbx.out.1.trans (hb1.mono hbx.out.1.size)); have hrz := Lib.hid (hbx.out.2.2.2.1.below hb1); have hb1' := Lib.hid hb1; have f1 := Lib.hid (hbx.out.2.1.below hb1 (Nat.le_refl _)); have f2 := Lib.hid (hbx.out.2.2.1.below hb1 (Nat.le_refl _)); clear hb1)
      | (with_reducible refine wpList_load_at rfl 24 (.tmp 3) rfl Try.underlying24 rfl hs1 rfl f1.out.all ?_)
      | (with_reducible refine wpList_load_at rfl 28 (.tmp 5) rfl Try.underlying28 rfl hs2 rfl f2.out.all ?_)
      | (go_at_call 53
         refine (must1_any q n c bs t id 0 _ _ _ ((hsc.out.below hb1'.out (Nat.le_refl _)).below ((Below.refl _ _).alloc (Nat.le_refl _) _) (Nat.le_refl _)) (Boxed.made w1 [fnV 54])).mono ?_
         rintro e w2 ⟨rfl, hb3⟩
         rw [hK'.out]
         have hb3' := Lib.hid (((Below.refl w1.heap.size w1).alloc (Nat.le_refl _) (.cells #[fnV 54] 102)).trans (hb3.mono (by simp)))
         have hb4 := Lib.hid (hb.out.trans (hb3'.out.mono hb.out.size))
         have g2 := Lib.hid (f2.out.below hb3'.out (Nat.le_refl _))
         have gz := Lib.hid (hrz.out.below hb3'.out)
         have hr2 := Lib.hid ((hrr.out.below hb1'.out (Nat.le_refl _)).below hb3'.out (Nat.le_refl _))
         clear hb3)
      | ((with_reducible refine wpList_store_at rfl 68 (.tmp 7) (.tmp 27) rfl (o := 0) rfl rfl gz.out hs0 (Nat.le_refl _) z1 ?_)
         intro w9 h9 hg9
         have r9 := Lib.hid h9
         have hg9' := Lib.hid hg9
         clear h9 hg9))
     have s9 : RowV 68 w9 (w.heap.size + 2) [.int .i64 0, .int .u16 0, .int .i64 0, .string ⟨#[]⟩] := r9.out
     have k0 := s9.cell 0
     have k1 := s9.cell 1
     have k2 := s9.cell 2
     have k3 := s9.cell 3
     simp only [List.getElem?_cons_zero, List.getElem?_cons_succ] at k0 k1 k2 k3
     refine bodyPost_ret (v := .tuple #[.slice none 0 0, rowV zeroR, .int .i64 (takeE bs l ⟨t, id⟩)]) (by rw [hE'.out]; simp [results, Try.results89, go_sem, k0, k1, k2, k3, rowV, zeroR]) rfl ?_
     refine ⟨_, _, _, by rw [show takeX bs l ⟨t, id⟩ = zeroR by unfold takeX; rw [hE'.out, if_neg hz2]], by rw [show takeL bs l ⟨t, id⟩ = [] by unfold takeL; rw [hE'.out, if_neg hz2]]; exact RowsOn.none_ _, ?_, by rw [show takeL bs l ⟨t, id⟩ = [] by unfold takeL; rw [hE'.out, if_neg hz2]]; exact OwnR.nil _ _ _⟩
     exact hb4.out.grown hg9'.out hb4.out.size (fun k e => by cases e; omega)
 · have hE : takeE bs l ⟨t, id⟩ = eL := by unfold takeE; rw [hL'.out, if_neg hz]
   have hE' := Lib.hid hE
   clear hE
   go_enter Try.func89, Try.ntmps89
   go_wp2_with (first
    | (with_reducible refine wpList_load_at rfl 24 (.tmp 3) rfl Try.underlying24 rfl hs1 rfl e1.out.all ?_)
    | (go_at_call 28; refine hcl.out.mono ?_; rintro e w1 ⟨rfl, hb1⟩; have hb := Lib.hid (hbx.out.1.trans (hb1.mono hbx.out.1.size)); have hrz := Lib.hid (hbx.out.2.2.2.1.below hb1); have hb1' := Lib.hid hb1; have f1 := Lib.hid (hbx.out.2.1.below hb1 (Nat.le_refl _)); have f2 := Lib.hid (hbx.out.2.2.1.below hb1 (Nat.le_refl _)); clear hb1)
    | ((with_reducible refine wpList_store_at rfl 68 (.tmp 7) (.tmp 18) rfl (o := 0) rfl rfl hrz.out hs0 (Nat.le_refl _) z1 ?_)
       intro w9 h9 hg9
       have r9 := Lib.hid h9
       have hg9' := Lib.hid hg9
       clear h9 hg9))
   have s9 : RowV 68 w9 (w.heap.size + 2) [.int .i64 0, .int .u16 0, .int .i64 0, .string ⟨#[]⟩] := r9.out
   have k0 := s9.cell 0
   have k1 := s9.cell 1
   have k2 := s9.cell 2
   have k3 := s9.cell 3
   simp only [List.getElem?_cons_zero, List.getElem?_cons_succ] at k0 k1 k2 k3
   refine bodyPost_ret (v := .tuple #[.slice none 0 0, rowV zeroR, .int .i64 (takeE bs l ⟨t, id⟩)]) (by rw [hE'.out]; simp [results, Try.results89, go_sem, k0, k1, k2, k3, rowV, zeroR]) rfl ?_
   refine ⟨_, _, _, by rw [show takeX bs l ⟨t, id⟩ = zeroR by unfold takeX; rw [hE'.out, if_neg hz]], by rw [show takeL bs l ⟨t, id⟩ = [] by unfold takeL; rw [hE'.out, if_neg hz]]; exact RowsOn.none_ _, ?_, by rw [show takeL bs l ⟨t, id⟩ = [] by unfold takeL; rw [hE'.out, if_neg hz]]; exact OwnR.nil _ _ _⟩
   exact hb.out.grown hg9'.out hb.out.size (fun k e => by cases e; omega)
end Go.Proofs.Ytkdkncbccofpdaa
