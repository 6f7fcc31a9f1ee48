/- spliced of row: with a row more, with a row in the place of another, without a row. -/
import Derived.Test.YtkdkncbccofpdaaYRpl
namespace Go.Proofs.Ytkdkncbccofpdaa
open Go.RowKit

theorem RowsOn.nnil {w : World} {q : Option Addr} {n c : Nat} {l : List RowD} (h : RowsOn w q n c l) (hn : 0 < n) : ∃ a, q = some a := by
  obtain ⟨a, r, ha, _⟩ := h.at hn
  exact ⟨a, ha⟩

set_option maxRecDepth 100000 in
set_option maxHeartbeats 1000000 in
theorem replace_ins (B : Nat) (q : Option Addr) (n c i vb : Nat) (l : List RowD) (r : RowD) (w : World) (hi : i ≤ n) (hn : n ≤ 1000000) (hnc : n ≤ c) (hB : B ≤ w.heap.size) (hown : OwnR 68 w B (.slice q n c) l) (hv : RowV 68 w vb r.cells) (hok : RowOk r) (hne : ∀ a, q = some a → vb ≠ a.block) :
    Calls Try.prog 99 #[.slice q n c, .int .i64 i, .int .i64 i, .slice (some ⟨vb, 0, none⟩) 1 1] w (fun e w' => ∃ q' c', e = .returned (.slice q' (n + 1) c') ∧ OwnR 68 w' B (.slice q' (n + 1) c') (l.take i ++ r :: l.drop i) ∧ Below B w w') := by
  have hins := Lib.hid (insert_any B q n c i vb l r w hi hn hB hown hv hok hne)
  have hic : i ≤ c := by omega
  clear hown hv hok hne
  go_enter Try.func99, Try.ntmps99
  go_wp2_with (go_at_call 100; refine hins.out.mono ?_; rintro e w' ⟨q', c', rfl, h1, h2⟩; have h3 := Lib.hid h1; have h4 := Lib.hid h2; clear h1 h2)
  all_goals
    go_ret
    exact ⟨q', c', rfl, h3.out, h4.out⟩

theorem rows_ok {l : List RowD} {r : RowD} {i j : Nat} (h : ∀ x ∈ l, RowOk x) (hr : RowOk r) : ∀ x ∈ l.take i ++ r :: l.drop j, RowOk x := fun x hx => by
  rcases List.mem_append.1 hx with hx | hx
  · exact h x (List.mem_of_mem_take hx)
  · rcases List.mem_cons.1 hx with rfl | hx
    · exact hr
    · exact h x (List.mem_of_mem_drop hx)

set_option maxRecDepth 100000 in
set_option maxHeartbeats 1000000 in
theorem spliced_ins (q : Option Addr) (n c i vb : Nat) (l : List RowD) (r : RowD) (w : World) (hr : RowsOn w q n c l) (hi : i ≤ n) (hn : n ≤ 1000000) (hv : RowV 68 w vb r.cells) (hok : RowOk r) :
    Calls Try.prog 95 #[.slice q n c, .int .i64 i, .int .i64 i, .slice (some ⟨vb, 0, none⟩) 1 1] w (fun e w' => ∃ q' c', e = .returned (.slice q' (n + 1) c') ∧ RowsOn w' q' (n + 1) c' (l.take i ++ r :: l.drop i) ∧ Below w.heap.size w w' ∧ OwnR 68 w' w.heap.size (.slice q' (n + 1) c') (l.take i ++ r :: l.drop i)) := by
  have hcl := Lib.hid (clone_any q n c l w hr hn)
  have hlt := hv.lt
  have hvv := Lib.hid hv
  have hall := Lib.hid hr.ok
  have hok' := Lib.hid hok
  clear hr hv hok
  go_enter Try.func95, Try.ntmps95
  go_wp2_with (first
    | (go_at_call 34
       refine hcl.out.mono ?_
       rintro e w1 ⟨q1, c1, rfl, h1, h2⟩
       have ho := Lib.hid h1
       have hb := Lib.hid h2
       have hR := Lib.hid (h1.reads hall.out)
       clear h1 h2)
    | (go_at_call 99
       refine (replace_ins w.heap.size q1 n c1 i vb l r w1 hi hn hR.out.le hb.out.size ho.out (hvv.out.below hb.out) hok'.out (fun a ha e => by have := (ho.out.far a ha).1; omega)).mono ?_
       rintro e w2 ⟨q2, c2, rfl, h1, h2⟩
       have ho2 := Lib.hid h1
       have hb2 := Lib.hid h2
       clear h1 h2))
  go_ret
  exact ⟨q2, c2, rfl, ho2.out.reads (rows_ok hall.out hok'.out), hb.out.trans hb2.out, ho2.out⟩

set_option maxRecDepth 100000 in
set_option maxHeartbeats 1000000 in
theorem spliced_set (q : Option Addr) (n c i vb : Nat) (l : List RowD) (r : RowD) (w : World) (hr : RowsOn w q n c l) (hi : i < n) (hn : n ≤ 1000000) (hv : RowV 68 w vb r.cells) (hok : RowOk r) :
    Calls Try.prog 95 #[.slice q n c, .int .i64 i, .int .i64 ((i : Int) + 1), .slice (some ⟨vb, 0, none⟩) 1 1] w (fun e w' => ∃ q' c', e = .returned (.slice q' n c') ∧ RowsOn w' q' n c' (l.take i ++ r :: l.drop (i + 1)) ∧ Below w.heap.size w w' ∧ OwnR 68 w' w.heap.size (.slice q' n c') (l.take i ++ r :: l.drop (i + 1))) := by
  have hcl := Lib.hid (clone_any q n c l w hr hn)
  have hlt := hv.lt
  have hvv := Lib.hid hv
  have hll := Lib.hid hr.len
  have hall := Lib.hid hr.ok
  have hok' := Lib.hid hok
  clear hr hv hok
  go_enter Try.func95, Try.ntmps95
  go_wp2_with (first
    | (go_at_call 34
       refine hcl.out.mono ?_
       rintro e w1 ⟨q1, c1, rfl, h1, h2⟩
       have ho := Lib.hid h1
       have hb := Lib.hid h2
       have hR := Lib.hid (h1.reads hall.out)
       clear h1 h2)
    | (go_at_call 99
       have hex : Calls Try.prog 99 #[.slice q1 n c1, .int .i64 i, .int .i64 ((i : Int) + 1), .slice (some ⟨vb, 0, none⟩) 1 1] w1 (fun e w' => ∃ q' c', e = .returned (.slice q' n c') ∧ OwnR 68 w' w.heap.size (.slice q' n c') (l.take i ++ r :: l.drop (i + 1)) ∧ Below w.heap.size w1 w') := by
         obtain ⟨a, ha⟩ := hR.out.nnil (by omega)
         subst ha
         obtain ⟨g, cur, rfl, hBg, hrow, hnc, hc, hs, ht⟩ := ho.out.opened
         have hfin : ∀ e w', (∃ q' c', e = Ending.returned (.slice q' n c') ∧ OwnR 68 w' w.heap.size (.slice q' n c') (l.take i ++ r :: l.drop (i + 1)) ∧ w1.grownBy w' (some g)) → ∃ q' c', e = Ending.returned (.slice q' n c') ∧ OwnR 68 w' w.heap.size (.slice q' n c') (l.take i ++ r :: l.drop (i + 1)) ∧ Below w.heap.size w1 w' := by
           rintro e w' ⟨q', c', h1, h2, h3⟩
           exact ⟨q', c', h1, h2, grown_belowN h3 hb.out.size (fun k hk => by cases hk; exact hBg)⟩
         by_cases hl : i + 1 = n
         · have h := replace_set_last w.heap.size g c1 n i vb cur l r w1 hl hnc hn hc hBg hb.out.size hrow hs ht hll.out (hvv.out.below hb.out) hok'.out
           rw [show ((i : Int) + 1) = (n : Int) by omega]
           exact h.mono hfin
         · exact (replace_set_mid w.heap.size g c1 n i vb cur l r w1 (by omega) hnc hn hc hBg hrow hs ht hll.out (hvv.out.below hb.out)).mono hfin
       refine hex.mono ?_
       clear hex
       rintro e w2 ⟨q2, c2, rfl, h1, h2⟩
       have ho2 := Lib.hid h1
       have hb2 := Lib.hid h2
       clear h1 h2))
  go_ret
  exact ⟨q2, c2, rfl, ho2.out.reads (rows_ok hall.out hok'.out), hb.out.trans hb2.out, ho2.out⟩

set_option maxRecDepth 100000 in
set_option maxHeartbeats 1000000 in
theorem spliced_cut (q : Option Addr) (n c i : Nat) (l : List RowD) (w : World) (hr : RowsOn w q n c l) (hi : i < n) (hn : n ≤ 1000000) :
    Calls Try.prog 95 #[.slice q n c, .int .i64 i, .int .i64 ((i : Int) + 1), .slice none 0 0] w (fun e w' => ∃ q' c', e = .returned (.slice q' (n - 1) c') ∧ RowsOn w' q' (n - 1) c' (l.take i ++ l.drop (i + 1)) ∧ Below w.heap.size w w' ∧ (∀ a, q' = some a → w.heap.size ≤ a.block) ∧ OwnR 68 w' w.heap.size (.slice q' (n - 1) c') (l.take i ++ l.drop (i + 1))) := by
  have hcl := Lib.hid (clone_any q n c l w hr hn)
  have hll := Lib.hid hr.len
  have hall := Lib.hid hr.ok
  clear hr
  go_enter Try.func95, Try.ntmps95
  go_wp2_with (first
    | (go_at_call 34
       refine hcl.out.mono ?_
       rintro e w1 ⟨q1, c1, rfl, h1, h2⟩
       have ho := Lib.hid h1
       have hb := Lib.hid h2
       have hR := Lib.hid (h1.reads hall.out)
       clear h1 h2)
    | (go_at_call 99
       have hex : Calls Try.prog 99 #[.slice q1 n c1, .int .i64 i, .int .i64 ((i : Int) + 1), .slice none 0 0] w1 (fun e w' => ∃ q' c', e = .returned (.slice q' (n - 1) c') ∧ OwnR 68 w' w.heap.size (.slice q' (n - 1) c') (l.take i ++ l.drop (i + 1)) ∧ Below w.heap.size w1 w') := by
         obtain ⟨a, ha⟩ := hR.out.nnil (by omega)
         subst ha
         obtain ⟨g, cur, rfl, hBg, hrow, hnc, hc, hs, ht⟩ := ho.out.opened
         have hfin : ∀ e w', (∃ q' c', e = Ending.returned (.slice q' (n - 1) c') ∧ OwnR 68 w' w.heap.size (.slice q' (n - 1) c') (l.take i ++ l.drop (i + 1)) ∧ w1.grownBy w' (some g)) → ∃ q' c', e = Ending.returned (.slice q' (n - 1) c') ∧ OwnR 68 w' w.heap.size (.slice q' (n - 1) c') (l.take i ++ l.drop (i + 1)) ∧ Below w.heap.size w1 w' := by
           rintro e w' ⟨q', c', h1, h2, h3⟩
           exact ⟨q', c', h1, h2, grown_belowN h3 hb.out.size (fun k hk => by cases hk; exact hBg)⟩
         by_cases hl : i + 1 = n
         · have h := replace_cut_last w.heap.size g c1 n i cur l w1 hl hnc hn hc hBg hrow hs ht hll.out
           rw [show ((i : Int) + 1) = (n : Int) by omega]
           rw [show i = n - 1 by omega] at h hfin ⊢
           exact h.mono hfin
         · exact (replace_cut_mid w.heap.size g c1 n i cur l w1 (by omega) hnc hn hc hBg hrow hs ht hll.out).mono hfin
       refine hex.mono ?_
       clear hex
       rintro e w2 ⟨q2, c2, rfl, h1, h2⟩
       have ho2 := Lib.hid h1
       have hb2 := Lib.hid h2
       clear h1 h2))
  go_ret
  exact ⟨q2, c2, rfl, ho2.out.reads (fun x hx => by
    rcases List.mem_append.1 hx with hx | hx
    · exact hall.out x (List.mem_of_mem_take hx)
    · exact hall.out x (List.mem_of_mem_drop hx)), hb.out.trans hb2.out, fun a ha => (ho2.out.far a ha).1, ho2.out⟩
end Go.Proofs.Ytkdkncbccofpdaa
