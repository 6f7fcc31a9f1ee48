/- The reader of codec: a list of rows. -/
import Derived.Test.YtcniolmihpkmmaaKRk
namespace Go.Proofs.Ytcniolmihpkmmaa
open Go.RowKit

theorem RowV.rows1 {T : TypeId} {w : World} {g : Nat} {r : RowD} (h : RowV T w g r.cells) (hok : RowOk r) : RowsOn w (some ⟨g, 0, none⟩) 1 1 [r] :=
  ⟨rfl, Nat.le_refl _, by unfold maxLen; decide, (fun e => by cases e), fun i x hi => ⟨_, rfl, fun j v hj => by
    match i, hi with
    | 0, hi =>
      obtain rfl : r = x := by simpa using hi
      rw [Nat.zero_mul, add0]
      exact h.part (pre := []) (rest := []) (by simp) rfl j v hj
    | i + 1, hi => simp at hi⟩, fun x hx => by rw [List.mem_singleton.1 hx]; exact hok⟩
theorem rowP_ok {s s' : St} {r : RowD} (h : rowP s = (r, 0, s')) : RowOk r ∧ tabB r.key.t = true ∧ r.note.size ≤ 8 := by
  obtain ⟨k0, k1, k2, k3⟩ := keyD_ok s
  unfold rowP at h
  split at h
  · rename_i ht
    split at h
    · rename_i hl
      split at h
      · rename_i he
        simp only [Prod.mk.injEq] at h
        obtain ⟨rfl, _, _⟩ := h
        have hn : ((lenT s).raw (lenS s)).length ≤ 8 := by
          unfold St.raw rawL
          split
          · rw [List.length_take]; omega
          · simp
        have hv : I64 (valS s) := by
          unfold valS I64
          rw [IntKind.wrap_i64]
          omega
        refine ⟨⟨⟨by unfold I64; constructor <;> (show _ ; have : (⟨keyD s, valS s, ⟨((lenT s).raw (lenS s)).toArray⟩⟩ : RowD).key.t = (keyD s).t := rfl; omega), k2, k3⟩, hv, ?_⟩, ht, ?_⟩
        · show ((lenT s).raw (lenS s)).toArray.size ≤ _
          unfold maxLen; simp; omega
        · show ((lenT s).raw (lenS s)).toArray.size ≤ _
          simpa using hn
      · rename_i he
        simp only [Prod.mk.injEq] at h
        exact absurd h.2.1 he
    · simp at h
  · simp at h
def rowsP : Nat → List RowD → St → List RowD × Int × St
  | 0, acc, s => (acc, s.e, s)
  | n + 1, acc, s => if (rowP s).2.1 = 0 then rowsP n (acc ++ [(rowP s).1]) (rowP s).2.2 else ([], (rowP s).2.1, (rowP s).2.2)
def listR (s : St) : List RowD × Int × St := if 4 < s.num 1 then ([], 161, s.next 1) else rowsP (s.num 1).toNat [] (s.next 1)

/-- what the list holds in the middle -/
structure LRS (w : World) (g : Nat) (d : Option Nat) (acc : List RowD) (v : Value) (s : St) (u : World) : Prop where
  box : Boxed u w.heap.size [.pointer (some ⟨g, 0, none⟩)]
  own : OwnR 42 u (w.heap.size + 1) v acc
  gr : w.grownBy u (some g)
  rd : RdrS u g d s
  far : w.heap.size < u.heap.size
theorem LRS.on {w u v : World} {g : Nat} {d : Option Nat} {acc : List RowD} {q : Option Addr} {n c : Nat} {s s' : St} (h : LRS w g d acc (.slice q n c) s u) (hg : u.grownBy v (some g)) (hr : RdrS v g d s') (hb : g < w.heap.size) : LRS w g d acc (.slice q n c) s' v :=
  ⟨h.box.gr hg (by omega), h.own.kept (fun a ha => hg.block _ (h.own.far a ha).2 (fun e => by have := (h.own.far a ha).1; simp at e; omega)), h.gr.trans hg, hr, Nat.lt_of_lt_of_le h.far hg.size⟩
theorem LRS.below {w u v : World} {g : Nat} {d : Option Nat} {acc : List RowD} {q : Option Addr} {n c : Nat} {s : St} (h : LRS w g d acc (.slice q n c) s u) (hb : Below u.heap.size u v) : LRS w g d acc (.slice q n c) s v :=
  ⟨h.box.below hb (Nat.le_refl _), h.own.below hb, Gr.then h.gr hb, h.rd.below hb, Nat.lt_of_lt_of_le h.far hb.size⟩
theorem LRS.more {w u v : World} {g : Nat} {d : Option Nat} {acc acc' : List RowD} {q q' : Option Addr} {n c n' c' : Nat} {s : St} (h : LRS w g d acc (.slice q n c) s u) (hg : u.grownBy v (q.map (·.block))) (ho : OwnR 42 v (w.heap.size + 1) (.slice q' n' c') acc')
    (hb : g < w.heap.size) (hsrc : ∀ x, d = some x → x < w.heap.size) : LRS w g d acc' (.slice q' n' c') s v := by
  cases q with
  | none =>
    have hbl : Below u.heap.size u v := grown_belowN hg (Nat.le_refl _) (fun k hk => by cases hk)
    exact ⟨h.box.below hbl (Nat.le_refl _), ho, Gr.then h.gr hbl, h.rd.below hbl, Nat.lt_of_lt_of_le h.far hbl.size⟩
  | some a =>
    have hf := (h.own.far a rfl).1
    have hg' : u.grownBy v (some a.block) := hg
    exact ⟨h.box.gr hg' (by omega), ho, Gr.own h.gr hg' (by omega), h.rd.keep hg' (by omega) (fun e => by have := hsrc _ e; omega), Nat.lt_of_lt_of_le h.far hg'.size⟩
def ListR (s : St) (w : World) (g : Nat) (d : Option Nat) (e : Ending) (w' : World) : Prop :=
  ∃ L er s' q n c, listR s = (L, er, s') ∧ e = .returned (.tuple #[.slice q n c, .int .i64 er]) ∧ RowsOn w' q n c L ∧ w.grownBy w' (some g) ∧ RdrS w' g d s' ∧ (∀ a, q = some a → w.heap.size ≤ a.block)

set_option maxRecDepth 100000 in
set_option maxHeartbeats 4000000 in
theorem listR_rd (g : Nat) (d : Option Nat) (s : St) (w : World) (h : RdrS w g d s) :
    Calls Try.prog 71 #[.agg #[.pointer (some ⟨g, 0, none⟩)], .int .i64 4, .func (.func 38) #[.agg #[.pointer (some ⟨g, 0, none⟩)]] #[]] w (ListR s w g d) := by
  obtain ⟨W, hW⟩ : ∃ W, w.alloc (.cells #[.pointer (some ⟨g, 0, none⟩)] 73) = W := ⟨_, rfl⟩
  have hbx := Lib.hid (one_box (xs := [.pointer (some ⟨g, 0, none⟩)]) hW)
  have hg := h.lt
  have hsrc := Lib.hid h.src
  have hr := Lib.hid (h.below hbx.out.1)
  have c0 := hbx.out.2.1.cell 0 rfl
  have hn := numV1 s.l s.e
  obtain ⟨z, hz⟩ : ∃ z : Nat, s.num 1 = z := ⟨(s.num 1).toNat, by have : s.num 1 = numV 1 s.l s.e := rfl; omega⟩
  have hzz : 0 ≤ (z : Int) ∧ (z : Int) < 256 := by rw [← hz]; exact hn
  have hu8 := rd8 g d s W hr.out
  rw [hz] at hu8
  have hz' := Lib.hid hz
  have hfar := hbx.out.2.2
  clear h hz hn
  obtain ⟨z0, z1⟩ := hzz
  go_enter Try.func71, Try.ntmps71
  go_wp2_with fail
  refine hu8.mono ?_
  clear hu8
  rintro e w1 ⟨rfl, hg1, hr1⟩
  have hb1 := Lib.hid (hbx.out.2.1.gr hg1 (by omega))
  have gr1 := Lib.hid (Gr.after hbx.out.1 hg1)
  have r1 := Lib.hid hr1
  have hf1 : w.heap.size < w1.heap.size := by have := hg1.size; omega
  clear hg1 hr1 c0 hW
  by_cases h4 : 4 < z
  · have hl : Hid (listR s = ([], 161, s.next 1)) := by
      show listR s = _
      unfold listR
      rw [hz'.out, if_pos (by omega)]
    go_wp2
    go_ret2
    exact ⟨_, _, _, none, 0, 0, hl.out, rfl, RowsOn.none_ _, gr1.out, r1.out, fun a ha => by cases ha⟩
  · have hl : Hid (listR s = rowsP z [] (s.next 1)) := by
      show listR s = _
      unfold listR
      rw [hz'.out, if_neg (by omega)]
      rfl
    have hr0 : Hid (LRS w g d [] (.slice none 0 0) (s.next 1) w1) := ⟨hb1.out, OwnR.nil _ _ _, gr1.out, r1.out, hf1⟩
    have he0 : Hid (rowsP z [] (s.next 1) = rowsP (z - 0) [] (s.next 1) ∧ ([] : List RowD).length = 0 ∧ ∀ x ∈ ([] : List RowD), RowOk x) := ⟨rfl, rfl, fun x hx => by cases hx⟩
    go_wp2
    go_loopw [9, 20] (fun v9 v20 wr => ∃ (k : Nat) (acc : List RowD) (si : St) (q0 : Option Addr) (n0 cap0 : Nat), k ≤ z ∧ v20 = .int .i64 k ∧ v9 = .slice q0 n0 cap0 ∧ Hid (rowsP z [] (s.next 1) = rowsP (z - k) acc si ∧ acc.length = k ∧ ∀ x ∈ acc, RowOk x) ∧ Hid (LRS w g d acc (.slice q0 n0 cap0) si wr)) (fun _ v20 _ => z - (intOf v20).toNat)
    case atStart => exact ⟨0, [], s.next 1, none, 0, 0, Nat.zero_le _, rfl, rfl, he0, hr0⟩
    case round =>
      obtain ⟨k, acc, si, q0, n0, cap0, hk, rfl, rfl, hac, hrl⟩ := hrel
      by_cases hlt : k < z
      · have hn0 : n0 ≤ k := by rw [hrl.out.own.len]; exact Nat.le_of_eq hac.out.2.1
        go_wp2_with fail
        refine (row_rd g d si wr hrl.out.rd).mono ?_
        rintro e u1 ⟨r, er, s1, hP, rfl, hg1, hr1⟩
        have hP' := Lib.hid hP
        have hS1 := Lib.hid (hrl.out.on hg1 hr1 hg)
        have hzk : z - k = (z - (k + 1)) + 1 := by omega
        clear hP hg1 hr1
        unfold rowV
        obtain ⟨⟨rt, ri⟩, rv, rs⟩ := r
        by_cases hz7 : er = 0
        · subst hz7
          have hok := Lib.hid (rowP_ok hP'.out)
          have hstep : Hid (rowsP z [] (s.next 1) = rowsP (z - (k + 1)) (acc ++ [⟨⟨rt, ri⟩, rv, rs⟩]) s1 ∧ (acc ++ [(⟨⟨rt, ri⟩, rv, rs⟩ : RowD)]).length = k + 1 ∧ ∀ x ∈ acc ++ [(⟨⟨rt, ri⟩, rv, rs⟩ : RowD)], RowOk x) := by
            refine ⟨?_, by rw [List.length_append, hac.out.2.1]; rfl, fun x hx => ?_⟩
            · rw [hac.out.1, hzk]
              show (if (rowP si).2.1 = 0 then _ else _) = _
              rw [hP'.out]
              rfl
            · rcases List.mem_append.1 hx with hx | hx
              · exact hac.out.2.2 x hx
              · rw [List.mem_singleton.1 hx]; exact hok.out.1
          clear hzk
          obtain ⟨W2, hW2⟩ : ∃ W2, (u1.alloc (.cells #[.int .i64 rt, .int .u16 ri, .int .i64 rv, .string rs] 42)).alloc (.cells #[.int .i64 rt, .int .u16 ri, .int .i64 rv, .string rs] 42) = W2 := ⟨_, rfl⟩
          have hb2 := Lib.hid (two_boxes (xs := [.int .i64 rt, .int .u16 ri, .int .i64 rv, .string rs]) (ys := [.int .i64 rt, .int .u16 ri, .int .i64 rv, .string rs]) hW2)
          have f1 := Lib.hid (Boxed.made (T := 42) u1 [.int .i64 rt, .int .u16 ri, .int .i64 rv, .string rs])
          have hs2 := sizeRow rt ri rv rs
          have hrow : Hid (RowsOn W2 (some ⟨u1.heap.size + 1, 0, none⟩) 1 1 [⟨⟨rt, ri⟩, rv, rs⟩]) := by
            have h0 := RowV.made (T := 42) (u1.alloc (.cells #[.int .i64 rt, .int .u16 ri, .int .i64 rv, .string rs] 42)) [.int .i64 rt, .int .u16 ri, .int .i64 rv, .string rs]
            have h1 : RowV 42 W2 (u1.heap.size + 1) [.int .i64 rt, .int .u16 ri, .int .i64 rv, .string rs] := by rw [← hW2]; simpa using h0
            exact RowV.rows1 (r := ⟨⟨rt, ri⟩, rv, rs⟩) h1 hok.out.1
          have hS2 := Lib.hid (hS1.out.below hb2.out.1)
          have hsz : Hid (w.heap.size + 1 ≤ W2.heap.size) := hS2.out.far
          have h40 : Hid ((n0 + 1) * 40 ≤ 140737488355328) := by show _ ≤ _; omega
          have h41 : Hid (n0 + 1 ≤ 140737488355328) := by show _ ≤ _; omega
          go_wp2_with (first
            | (with_reducible refine wpList_load_at rfl 42 (.tmp 10) rfl Try.underlying42 rfl hs2 rfl f1.out.all ?_)
            | (at_builtin
               refine wpList_append_r Try.underlying23 infoRow rfl rfl (.tmp 30) (.tmp 32) rfl rfl rfl hS2.out.own hrow.out h40.out h41.out hsz.out ?_
               intro q' c' w' h1 h2 h3
               have hnew : Hid (LRS w g d (acc ++ [⟨⟨rt, ri⟩, rv, rs⟩]) (.slice q' (n0 + 1) c') s1 w') := hS2.out.more h2 h1 hg hsrc.out
               clear h1 h2 h3))
          go_roundw
          case rel => exact ⟨k + 1, acc ++ [⟨⟨rt, ri⟩, rv, rs⟩], s1, q', n0 + 1, c', by omega, by go_num, rfl, hstep, hnew⟩
          case measure => simp [intOf]; omega
        · have hfin : Hid (listR s = ([], er, s1)) := by
            show listR s = _
            rw [hl.out, hac.out.1, hzk]
            show (if (rowP si).2.1 = 0 then _ else _) = _
            rw [hP'.out, if_neg hz7]
          clear hzk
          go_wp2
          go_ret2
          exact ⟨_, _, _, none, 0, 0, hfin.out, rfl, RowsOn.none_ _, Gr.then hS1.out.gr ((Below.refl _ _).alloc (Nat.le_refl _) _), hS1.out.rd.below ((Below.refl _ _).alloc (Nat.le_refl _) _), fun a ha => by cases ha⟩
      · obtain rfl : z = k := by omega
        have cE := hrl.out.box.cell 0 rfl
        go_wp2_with fail
        refine (rdErr g d si wr hrl.out.rd).mono ?_
        rintro e wE ⟨rfl, rfl⟩
        clear cE
        have hfin : Hid (listR s = (acc, si.e, si)) := by
          show listR s = _
          rw [hl.out, hac.out.1, Nat.sub_self]
          rfl
        go_wp2
        go_ret2
        exact ⟨_, _, _, q0, n0, cap0, hfin.out, rfl, hrl.out.own.reads hac.out.2.2, hrl.out.gr, hrl.out.rd, fun a ha => by have := (hrl.out.own.far a ha).1; omega⟩
end Go.Proofs.Ytcniolmihpkmmaa
