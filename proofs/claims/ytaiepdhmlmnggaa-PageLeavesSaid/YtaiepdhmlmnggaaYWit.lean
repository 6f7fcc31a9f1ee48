/- The document's With. -/
import Derived.Test.YtaiepdhmlmnggaaYWth
import Derived.Test.YtaiepdhmlmnggaaKEnc
namespace Go.Proofs.Ytaiepdhmlmnggaa
open Go.RowKit

def insL : List RowD → RowD → List RowD
  | [], r => [r]
  | x :: t, r => if cmpK r.key x.key < 0 then r :: x :: t else x :: insL t r
def donB (L : List RowD) (r : RowD) : Bool := L.any fun x => decide (cmpK r.key x.key < 0)
theorem insL_skip : ∀ {L : List RowD} (M : List RowD) {r : RowD}, donB L r = false → insL (L ++ M) r = L ++ insL M r
  | [], M, r, _ => rfl
  | x :: L, M, r, h => by
    unfold donB at h
    rw [List.any_cons, Bool.or_eq_false_iff] at h
    have h1 : ¬ cmpK r.key x.key < 0 := by simpa using h.1
    show (if cmpK r.key x.key < 0 then _ else _) = _
    rw [if_neg h1]
    show x :: insL (L ++ M) r = _
    rw [insL_skip M h.2]
    rfl
theorem insL_done : ∀ {L : List RowD} (M : List RowD) {r : RowD}, donB L r = true → insL (L ++ M) r = insL L r ++ M
  | [], M, r, h => by cases h
  | x :: L, M, r, h => by
    show (if cmpK r.key x.key < 0 then _ else _) = (if cmpK r.key x.key < 0 then _ else _) ++ M
    by_cases h1 : cmpK r.key x.key < 0
    · rw [if_pos h1, if_pos h1]; rfl
    · have h2 : donB L r = true := by
        unfold donB at h
        rw [List.any_cons, Bool.or_eq_true] at h
        rcases h with h | h
        · exact absurd (by simpa using h) h1
        · exact h
      rw [if_neg h1, if_neg h1]
      show x :: insL (L ++ M) r = _
      rw [insL_done M h2]
      rfl
def accL (L : List RowD) (r : RowD) : List RowD := if donB L r = true then insL L r else L
theorem donB_step {L : List RowD} {k : Nat} {x r : RowD} (h : L[k]? = some x) : donB (L.take (k + 1)) r = (donB (L.take k) r || decide (cmpK r.key x.key < 0)) := by
  unfold donB
  rw [List.take_add_one, h, List.any_append]
  simp
theorem accL_done {L : List RowD} {k : Nat} {x r : RowD} (h : L[k]? = some x) (hd : donB (L.take k) r = true) : accL (L.take (k + 1)) r = accL (L.take k) r ++ [x] := by
  unfold accL
  rw [donB_step h, hd, if_pos (by rfl), if_pos rfl, List.take_add_one, h]
  exact insL_done [x] hd
theorem accL_here {L : List RowD} {k : Nat} {x r : RowD} (h : L[k]? = some x) (hd : donB (L.take k) r = false) (hc : cmpK r.key x.key < 0) : accL (L.take (k + 1)) r = (accL (L.take k) r ++ [r]) ++ [x] := by
  unfold accL
  rw [donB_step h, hd, if_pos (by simpa using hc), if_neg (by simp), List.take_add_one, h]
  rw [show (some x).toList = [x] from rfl, insL_skip [x] hd]
  show _ ++ (if cmpK r.key x.key < 0 then _ else _) = _
  rw [if_pos hc]
  simp
theorem accL_past {L : List RowD} {k : Nat} {x r : RowD} (h : L[k]? = some x) (hd : donB (L.take k) r = false) (hc : ¬ cmpK r.key x.key < 0) : accL (L.take (k + 1)) r = accL (L.take k) r ++ [x] := by
  unfold accL
  rw [donB_step h, hd, if_neg (by simpa using hc), if_neg (by simp), List.take_add_one, h]
  rfl
theorem accL_end {L : List RowD} {r : RowD} : (donB L r = true → accL L r = insL L r) ∧ (donB L r = false → accL L r ++ [r] = insL L r) := by
  refine ⟨fun h => if_pos h, fun h => ?_⟩
  have := insL_skip [] h
  rw [List.append_nil] at this
  rw [this]
  unfold accL
  rw [if_neg (by rw [h]; simp)]
  rfl
theorem insL_len : ∀ (L : List RowD) (r : RowD), (insL L r).length = L.length + 1
  | [], r => rfl
  | x :: t, r => by
    show (if cmpK r.key x.key < 0 then _ else _ : List RowD).length = _
    split
    · rfl
    · simp [insL_len t r]
theorem insL_ok : ∀ {L : List RowD} {r : RowD}, (∀ x ∈ L, RowOk x) → RowOk r → ∀ x ∈ insL L r, RowOk x
  | [], r, _, hr, x, hx => by
    have : x = r := by simpa [insL] using hx
    rw [this]; exact hr
  | y :: t, r, h, hr, x, hx => by
    by_cases hc : cmpK r.key y.key < 0
    · rw [show insL (y :: t) r = r :: y :: t from if_pos hc] at hx
      rcases List.mem_cons.1 hx with rfl | hx
      · exact hr
      · exact h x hx
    · rw [show insL (y :: t) r = y :: insL t r from if_neg hc] at hx
      rcases List.mem_cons.1 hx with rfl | hx
      · exact h _ (List.mem_cons_self ..)
      · exact insL_ok (fun z hz => h z (List.mem_cons_of_mem _ hz)) hr x hx
theorem accL_len (L : List RowD) (r : RowD) (k : Nat) : (accL (L.take k) r).length ≤ k + 1 := by
  unfold accL
  split
  · rw [insL_len, List.length_take]; omega
  · rw [List.length_take]; omega
def withL (l : List RowD) (r : RowD) : List RowD := insL (outL l r.key) r

set_option maxRecDepth 100000 in
set_option maxHeartbeats 4000000 in
theorem with_any (q : Option Addr) (n c : Nat) (l : List RowD) (t id v : Int) (s : ByteArray) (w : World) (hr : RowsOn w q n c l) (hn : n ≤ 100000) (hro : RowOk ⟨⟨t, id⟩, v, s⟩) :
    Calls Try.prog 51 #[.slice q n c, .agg #[.int .i64 t, .int .u16 id, .int .i64 v, .string s]] w (RowsPost w (withL l ⟨⟨t, id⟩, v, s⟩)) := by
  obtain ⟨W, hW⟩ : ∃ W, w.alloc (.cells #[.int .i64 t, .int .u16 id, .int .i64 v, .string s] 30) = W := ⟨_, rfl⟩
  have hbx := Lib.hid (one_box (xs := [.int .i64 t, .int .u16 id, .int .i64 v, .string s]) hW)
  have hs1 := sizeRow t id v s
  have hs3 := sizeKey t id
  have hrow := Lib.hid hro
  have hwo := Lib.hid (without_any q n c l t id W (hr.below hbx.out.1 (Nat.le_refl _)) (by omega))
  have hll := Lib.hid hr.len
  have hkey := Lib.hid hbx.out.2.1.key
  clear hr hro
  go_enter Try.func51, Try.ntmps51
  go_wp2_with (first
    | (with_reducible refine wpList_load_at rfl 28 (.tmp 10) rfl Try.underlying28 rfl hs3 rfl hkey.out ?_))
  refine hwo.out.mono ?_
  clear hwo
  rintro e X ⟨mq, m, mc, rfl, _, hrd, hb⟩
  obtain ⟨L, hL⟩ : ∃ L, outL l ⟨t, id⟩ = L := ⟨_, rfl⟩
  have hlen := outL_len l ⟨t, id⟩
  rw [hL] at hrd hlen
  rw [hll.out] at hlen
  have hLw : Hid (withL l ⟨⟨t, id⟩, v, s⟩ = insL L ⟨⟨t, id⟩, v, s⟩) := by show insL (outL l ⟨t, id⟩) _ = _; rw [hL]
  have hm : m ≤ n := by rw [← hrd.len]; exact hlen
  have hrr := Lib.hid hrd
  have hbX := Lib.hid hb
  have hbox := Lib.hid (hbx.out.2.1.below hb (Nat.le_refl _))
  have hr0 : Hid (AccRel X X (accL (L.take 0) ⟨⟨t, id⟩, v, s⟩) (.slice none 0 0)) := ⟨Below.refl _ _, OwnR.nil _ _ _⟩
  have hd0 : Hid (false = donB (L.take 0) ⟨⟨t, id⟩, v, s⟩) := by show false = _; rfl
  clear hL hlen hrd hb hW
  go_wp2
  go_loopw [5, 6, 8] (fun v5 v6 v8 wr => ∃ (k : Nat) (q0 : Option Addr) (n0 c0 : Nat) (b : Bool), k ≤ m ∧ v8 = .int .i64 k ∧ v5 = .slice q0 n0 c0 ∧ v6 = .bool b ∧ Hid (b = donB (L.take k) ⟨⟨t, id⟩, v, s⟩) ∧ Hid (AccRel X wr (accL (L.take k) ⟨⟨t, id⟩, v, s⟩) (.slice q0 n0 c0))) (fun _ _ v8 _ => m - (intOf v8).toNat)
  case atStart => exact ⟨0, none, 0, 0, false, Nat.zero_le _, rfl, rfl, rfl, hd0, hr0⟩
  case round =>
    obtain ⟨k, q0, n0, c0, b, hk, rfl, rfl, rfl, hdb, hrl⟩ := hrel
    have hboxr := Lib.hid (hbox.out.below hrl.out.1 (Nat.le_refl _))
    have hn0 : n0 ≤ k + 1 := by rw [hrl.out.2.len]; exact accL_len L _ k
    by_cases hlt : k < m
    · obtain ⟨a, ⟨⟨pt, pid⟩, pv, ps⟩, rfl, hx, hok, hc⟩ := hrr.out.at hlt
      have hcellX : Hid (∀ j x, ([.int .i64 pt, .int .u16 pid, .int .i64 pv, .string ps] : List Value)[j]? = some x → X.cell? ((a.add (k * 4)).add j) = some x) := hc
      have hcell : Hid (∀ j x, ([.int .i64 pt, .int .u16 pid, .int .i64 pv, .string ps] : List Value)[j]? = some x → wr.cell? ((a.add (k * 4)).add j) = some x) := fun j x hj => cell_keeps hrl.out.1 (Nat.le_refl _) (hcellX.out j x hj)
      have hx' := Lib.hid hx
      have hok' := Lib.hid hok
      have hs2 := sizeRow pt pid pv ps
      have i0 : (0 : Int) ≤ k := by omega
      have i1 : (k : Int) < m := by omega
      clear hx hok hc
      cases b with
      | true =>
        have hst := Lib.hid (accL_done (r := ⟨⟨t, id⟩, v, s⟩) hx'.out hdb.out.symm)
        have hdn : Hid (true = donB (L.take (k + 1)) ⟨⟨t, id⟩, v, s⟩) := by show true = _; rw [donB_step hx'.out, ← hdb.out]; rfl
        go_wp2
        go_quiet (fail)
        rename_i nq
        obtain ⟨W1, hW1⟩ : ∃ W1, wr.drewN nq = W1 := ⟨_, rfl⟩
        have hd1 : Hid (Below wr.heap.size wr W1) := by rw [← hW1]; exact below_drewN _ _
        have hcell1 : Hid (∀ j x, ([.int .i64 pt, .int .u16 pid, .int .i64 pv, .string ps] : List Value)[j]? = some x → W1.cell? ((a.add (k * 4)).add j) = some x) := fun j x hj => cell_keeps hd1.out (Nat.le_refl _) (hcell.out j x hj)
        obtain ⟨W2, hW2⟩ : ∃ W2, W1.alloc (.cells #[.int .i64 pt, .int .u16 pid, .int .i64 pv, .string ps] 30) = W2 := ⟨_, rfl⟩
        have hb2 := Lib.hid (one_box (xs := [.int .i64 pt, .int .u16 pid, .int .i64 pv, .string ps]) hW2)
        have hb3 := Lib.hid (hd1.out.trans (hb2.out.1.mono hd1.out.size))
        have hrw : Hid (RowsOn W2 (some ⟨W1.heap.size, 0, none⟩) 1 1 [⟨⟨pt, pid⟩, pv, ps⟩]) := by
          have h0 := RowV.made (T := 30) W1 [.int .i64 pt, .int .u16 pid, .int .i64 pv, .string ps]
          rw [hW2] at h0
          exact RowV.rows1 (r := ⟨⟨pt, pid⟩, pv, ps⟩) h0 hok'.out
        have hown := Lib.hid (hrl.out.2.below hb3.out)
        have hsz : Hid (X.heap.size ≤ W2.heap.size) := Nat.le_trans hrl.out.1.size hb3.out.size
        have h40 : Hid ((n0 + 1) * 40 ≤ 140737488355328) := by show _ ≤ _; omega
        have h41 : Hid (n0 + 1 ≤ 140737488355328) := by show _ ≤ _; omega
        go_wp2_with (first
          | (with_reducible refine wpList_load_at rfl 30 (.tmp 39) rfl Try.underlying30 rfl hs2 rfl hcell1.out ?_)
          | (at_builtin
             refine wpList_append_r Try.underlying22 infoRow rfl rfl (.tmp 36) (.tmp 41) rfl rfl rfl hown.out hrw.out h40.out h41.out hsz.out ?_
             intro q' c' w' h1 h2 h3
             have hnew : Hid (AccRel X w' (accL (L.take (k + 1)) ⟨⟨t, id⟩, v, s⟩) (.slice q' (n0 + 1) c')) := by
               rw [hst.out]
               exact hrl.out.hit hb3.out h1 h2
             clear h1 h2 h3))
        go_roundw
        case rel => exact ⟨k + 1, q', n0 + 1, c', true, by omega, by go_num, rfl, rfl, hdn, hnew⟩
        case measure => simp [intOf]; omega
      | false =>
        have p0 : wr.cell? (a.add (k * 4)) = some (.int .i64 pt) := by have h := hcell.out 0 _ rfl; rwa [add0] at h
        have p1 : wr.cell? ⟨(a.add (k * 4)).block, (a.add (k * 4)).off + 1, none⟩ = some (.int .u16 pid) := hcell.out 1 _ rfl
        have b0 := hboxr.out.cell 0 rfl
        have b1 := hboxr.out.cell 1 rfl
        have hcmp := Lib.hid (fun u => refCompare_any t id pt pid u)
        obtain ⟨z, hz⟩ : ∃ x, cmpK ⟨t, id⟩ ⟨pt, pid⟩ = x := ⟨_, rfl⟩
        rw [hz] at hcmp
        have hz' := Lib.hid hz
        clear hz
        by_cases hz0 : z < 0
        · have hst := Lib.hid (accL_here (r := ⟨⟨t, id⟩, v, s⟩) hx'.out hdb.out.symm (by rw [show cmpK (⟨⟨t, id⟩, v, s⟩ : RowD).key (⟨⟨pt, pid⟩, pv, ps⟩ : RowD).key = z from hz'.out]; exact hz0))
          have hdn : Hid (true = donB (L.take (k + 1)) ⟨⟨t, id⟩, v, s⟩) := by
            show true = _
            rw [donB_step hx'.out, show cmpK (⟨⟨t, id⟩, v, s⟩ : RowD).key (⟨⟨pt, pid⟩, pv, ps⟩ : RowD).key = z from hz'.out, decide_eq_true hz0]
            simp
          go_wp2
          go_region_held3 (fun u => u.cell? ⟨w.heap.size, 0, none⟩ = some (.int .i64 t) ∧ u.cell? ⟨w.heap.size, 1, none⟩ = some (.int .u16 id) ∧ u.cell? (a.add (k * 4)) = some (.int .i64 pt) ∧ u.cell? ⟨(a.add (k * 4)).block, (a.add (k * 4)).off + 1, none⟩ = some (.int .u16 pid) ∧ Below wr.heap.size wr u)
            (first | exact ⟨b0, b1, p0, p1, below_drew _⟩ | (go_split_ands; exact ⟨cell_keeps hb6.out (Nat.le_refl _) (by assumption), cell_keeps hb6.out (Nat.le_refl _) (by assumption), cell_keeps hb6.out (Nat.le_refl _) (by assumption), cell_keeps hb6.out (Nat.le_refl _) (by assumption), below_step hb6.out (by assumption)⟩))
            (first
              | (go_at_call 74; refine (hcmp.out _).mono ?_; rintro e x4 ⟨rfl, hb6'⟩; have hb6 := Lib.hid hb6'; clear hb6'))
          have hv4 : Hid (Below wr.heap.size wr x4) := by
            show Below _ _ _
            go_split_ands
            assumption
          clear p0 p1 b0 b1 hcmp
          have hbox4 := Lib.hid (hboxr.out.below hv4.out (Nat.le_refl _))
          obtain ⟨W1, hW1⟩ : ∃ W1, x4.alloc (.cells #[.int .i64 t, .int .u16 id, .int .i64 v, .string s] 30) = W1 := ⟨_, rfl⟩
          have hb2 := Lib.hid (one_box (xs := [.int .i64 t, .int .u16 id, .int .i64 v, .string s]) hW1)
          have hb3 := Lib.hid (hv4.out.trans (hb2.out.1.mono hv4.out.size))
          have hrw : Hid (RowsOn W1 (some ⟨x4.heap.size, 0, none⟩) 1 1 [⟨⟨t, id⟩, v, s⟩]) := by
            have h0 := RowV.made (T := 30) x4 [.int .i64 t, .int .u16 id, .int .i64 v, .string s]
            rw [hW1] at h0
            exact RowV.rows1 (r := ⟨⟨t, id⟩, v, s⟩) h0 hrow.out
          have hown := Lib.hid (hrl.out.2.below hb3.out)
          have hsz : Hid (X.heap.size ≤ W1.heap.size) := Nat.le_trans hrl.out.1.size hb3.out.size
          have h40 : Hid ((n0 + 1) * 40 ≤ 140737488355328) := by show _ ≤ _; omega
          have h41 : Hid (n0 + 1 ≤ 140737488355328) := by show _ ≤ _; omega
          have h42 : Hid ((n0 + 1 + 1) * 40 ≤ 140737488355328) := by show _ ≤ _; omega
          have h43 : Hid (n0 + 1 + 1 ≤ 140737488355328) := by show _ ≤ _; omega
          go_wp2_with (first
            | (with_reducible refine wpList_load_at rfl 30 (.tmp 3) rfl Try.underlying30 rfl hs1 rfl hbox4.out.all ?_)
            | (at_builtin
               refine wpList_append_r Try.underlying22 infoRow rfl rfl (.tmp 32) (.tmp 34) rfl rfl rfl hown.out hrw.out h40.out h41.out hsz.out ?_
               intro q1 c1 w5 h1 h2 h3
               have hmid := Lib.hid (hrl.out.hit hb3.out h1 h2)
               have hcell5 : Hid (∀ j x, ([.int .i64 pt, .int .u16 pid, .int .i64 pv, .string ps] : List Value)[j]? = some x → w5.cell? ((a.add (k * 4)).add j) = some x) := fun j x hj => cell_keeps hmid.out.1 (Nat.le_refl _) (hcellX.out j x hj)
               obtain ⟨W6, hW6⟩ : ∃ W6, w5.alloc (.cells #[.int .i64 pt, .int .u16 pid, .int .i64 pv, .string ps] 30) = W6 := ⟨_, rfl⟩
               have hb7 := Lib.hid (one_box (xs := [.int .i64 pt, .int .u16 pid, .int .i64 pv, .string ps]) hW6)
               have hrw6 : Hid (RowsOn W6 (some ⟨w5.heap.size, 0, none⟩) 1 1 [⟨⟨pt, pid⟩, pv, ps⟩]) := by
                 have h0 := RowV.made (T := 30) w5 [.int .i64 pt, .int .u16 pid, .int .i64 pv, .string ps]
                 rw [hW6] at h0
                 exact RowV.rows1 (r := ⟨⟨pt, pid⟩, pv, ps⟩) h0 hok'.out
               have hown6 := Lib.hid (hmid.out.2.below hb7.out.1)
               have hsz6 : Hid (X.heap.size ≤ W6.heap.size) := Nat.le_trans hmid.out.1.size hb7.out.1.size
               clear h1 h2 h3)
            | (with_reducible refine wpList_load_at rfl 30 (.tmp 39) rfl Try.underlying30 rfl hs2 rfl hcell5.out ?_)
            | (at_builtin
               refine wpList_append_r Try.underlying22 infoRow rfl rfl (.tmp 36) (.tmp 41) rfl rfl rfl hown6.out hrw6.out h42.out h43.out hsz6.out ?_
               intro q' c' w' h1 h2 h3
               have hnew : Hid (AccRel X w' (accL (L.take (k + 1)) ⟨⟨t, id⟩, v, s⟩) (.slice q' (n0 + 1 + 1) c')) := by
                 rw [hst.out]
                 exact hmid.out.hit hb7.out.1 h1 h2
               clear h1 h2 h3))
          go_roundw
          case rel => exact ⟨k + 1, q', n0 + 1 + 1, c', true, by omega, by go_num, rfl, rfl, hdn, hnew⟩
          case measure => simp [intOf]; omega
        · have hst := Lib.hid (accL_past (r := ⟨⟨t, id⟩, v, s⟩) hx'.out hdb.out.symm (by rw [show cmpK (⟨⟨t, id⟩, v, s⟩ : RowD).key (⟨⟨pt, pid⟩, pv, ps⟩ : RowD).key = z from hz'.out]; exact hz0))
          have hdn : Hid (false = donB (L.take (k + 1)) ⟨⟨t, id⟩, v, s⟩) := by
            show false = _
            rw [donB_step hx'.out, show cmpK (⟨⟨t, id⟩, v, s⟩ : RowD).key (⟨⟨pt, pid⟩, pv, ps⟩ : RowD).key = z from hz'.out, decide_eq_false hz0, ← hdb.out]
            rfl
          go_wp2
          go_region_held3 (fun u => u.cell? ⟨w.heap.size, 0, none⟩ = some (.int .i64 t) ∧ u.cell? ⟨w.heap.size, 1, none⟩ = some (.int .u16 id) ∧ u.cell? (a.add (k * 4)) = some (.int .i64 pt) ∧ u.cell? ⟨(a.add (k * 4)).block, (a.add (k * 4)).off + 1, none⟩ = some (.int .u16 pid) ∧ Below wr.heap.size wr u)
            (first | exact ⟨b0, b1, p0, p1, below_drew _⟩ | (go_split_ands; exact ⟨cell_keeps hb6.out (Nat.le_refl _) (by assumption), cell_keeps hb6.out (Nat.le_refl _) (by assumption), cell_keeps hb6.out (Nat.le_refl _) (by assumption), cell_keeps hb6.out (Nat.le_refl _) (by assumption), below_step hb6.out (by assumption)⟩))
            (first
              | (go_at_call 74; refine (hcmp.out _).mono ?_; rintro e x4 ⟨rfl, hb6'⟩; have hb6 := Lib.hid hb6'; clear hb6'))
          have hv4 : Hid (Below wr.heap.size wr x4) := by
            show Below _ _ _
            go_split_ands
            assumption
          clear p0 p1 b0 b1 hcmp
          have hcell4 : Hid (∀ j x, ([.int .i64 pt, .int .u16 pid, .int .i64 pv, .string ps] : List Value)[j]? = some x → x4.cell? ((a.add (k * 4)).add j) = some x) := fun j x hj => cell_keeps hv4.out (Nat.le_refl _) (hcell.out j x hj)
          obtain ⟨W2, hW2⟩ : ∃ W2, x4.alloc (.cells #[.int .i64 pt, .int .u16 pid, .int .i64 pv, .string ps] 30) = W2 := ⟨_, rfl⟩
          have hb2 := Lib.hid (one_box (xs := [.int .i64 pt, .int .u16 pid, .int .i64 pv, .string ps]) hW2)
          have hb3 := Lib.hid (hv4.out.trans (hb2.out.1.mono hv4.out.size))
          have hrw : Hid (RowsOn W2 (some ⟨x4.heap.size, 0, none⟩) 1 1 [⟨⟨pt, pid⟩, pv, ps⟩]) := by
            have h0 := RowV.made (T := 30) x4 [.int .i64 pt, .int .u16 pid, .int .i64 pv, .string ps]
            rw [hW2] at h0
            exact RowV.rows1 (r := ⟨⟨pt, pid⟩, pv, ps⟩) h0 hok'.out
          have hown := Lib.hid (hrl.out.2.below hb3.out)
          have hsz : Hid (X.heap.size ≤ W2.heap.size) := Nat.le_trans hrl.out.1.size hb3.out.size
          have h40 : Hid ((n0 + 1) * 40 ≤ 140737488355328) := by show _ ≤ _; omega
          have h41 : Hid (n0 + 1 ≤ 140737488355328) := by show _ ≤ _; omega
          go_wp2_with (first
            | (with_reducible refine wpList_load_at rfl 30 (.tmp 39) rfl Try.underlying30 rfl hs2 rfl hcell4.out ?_)
            | (at_builtin
               refine wpList_append_r Try.underlying22 infoRow rfl rfl (.tmp 36) (.tmp 41) rfl rfl rfl hown.out hrw.out h40.out h41.out hsz.out ?_
               intro q' c' w' h1 h2 h3
               have hnew : Hid (AccRel X w' (accL (L.take (k + 1)) ⟨⟨t, id⟩, v, s⟩) (.slice q' (n0 + 1) c')) := by
                 rw [hst.out]
                 exact hrl.out.hit hb3.out h1 h2
               clear h1 h2 h3))
          go_roundw
          case rel => exact ⟨k + 1, q', n0 + 1, c', false, by omega, by go_num, rfl, rfl, hdn, hnew⟩
          case measure => simp [intOf]; omega
    · obtain rfl : m = k := by omega
      have ho := hrl.out
      have hdb2 := hdb.out
      rw [List.take_of_length_le (by rw [hrr.out.len]; exact Nat.le_refl _)] at ho hdb2
      have ho' := Lib.hid ho
      have hdb' := Lib.hid hdb2
      have hup := Lib.hid (hbx.out.1.trans ((hbX.out.trans (hrl.out.1.mono hbX.out.size)).mono hbx.out.1.size))
      have hXw : Hid (w.heap.size ≤ X.heap.size) := Nat.le_trans hbx.out.1.size hbX.out.size
      clear ho hdb2
      cases b with
      | true =>
        go_wp2
        go_ret
        have he := accL_end.1 hdb'.out.symm
        have h1 := ho'.out.2
        rw [he] at h1
        rw [hLw.out]
        exact ⟨q0, n0, c0, rfl, h1.mono hXw.out, h1.reads (insL_ok hrr.out.ok hrow.out), hup.out⟩
      | false =>
        obtain ⟨W1, hW1⟩ : ∃ W1, wr.alloc (.cells #[.int .i64 t, .int .u16 id, .int .i64 v, .string s] 30) = W1 := ⟨_, rfl⟩
        have hb2 := Lib.hid (one_box (xs := [.int .i64 t, .int .u16 id, .int .i64 v, .string s]) hW1)
        have hrw : Hid (RowsOn W1 (some ⟨wr.heap.size, 0, none⟩) 1 1 [⟨⟨t, id⟩, v, s⟩]) := by
          have h0 := RowV.made (T := 30) wr [.int .i64 t, .int .u16 id, .int .i64 v, .string s]
          rw [hW1] at h0
          exact RowV.rows1 (r := ⟨⟨t, id⟩, v, s⟩) h0 hrow.out
        have hown := Lib.hid (ho'.out.2.below hb2.out.1)
        have hsz : Hid (X.heap.size ≤ W1.heap.size) := Nat.le_trans hrl.out.1.size hb2.out.1.size
        have h40 : Hid ((n0 + 1) * 40 ≤ 140737488355328) := by show _ ≤ _; omega
        have h41 : Hid (n0 + 1 ≤ 140737488355328) := by show _ ≤ _; omega
        go_wp2_with (first
          | (with_reducible refine wpList_load_at rfl 30 (.tmp 3) rfl Try.underlying30 rfl hs1 rfl hboxr.out.all ?_)
          | (at_builtin
             refine wpList_append_r Try.underlying22 infoRow rfl rfl (.tmp 45) (.tmp 47) rfl rfl rfl hown.out hrw.out h40.out h41.out hsz.out ?_
             intro q' c' w' h1 h2 h3
             have hnew := Lib.hid (ho'.out.hit hb2.out.1 h1 h2)
             clear h1 h2 h3))
        go_ret
        have he := accL_end.2 hdb'.out.symm
        have h1 := hnew.out.2
        rw [he] at h1
        rw [hLw.out]
        exact ⟨q', n0 + 1, c', rfl, h1.mono hXw.out, h1.reads (insL_ok hrr.out.ok hrow.out), hbx.out.1.trans ((hbX.out.trans (hnew.out.1.mono hbX.out.size)).mono hbx.out.1.size)⟩
end Go.Proofs.Ytaiepdhmlmnggaa
