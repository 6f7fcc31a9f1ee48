/- short and few of the laws on codec. -/
import Derived.Test.YtcniolmihpkmmaaKSame
namespace Go.Proofs.Ytcniolmihpkmmaa
open Go.RowKit

def shortR (r : RowD) : RowD := ⟨r.key, r.val, r.note.extract 0 (min r.note.size 9)⟩
theorem shortR_ok {r : RowD} (h : RowOk r) : RowOk (shortR r) := ⟨h.key, h.val, by
  have := h.note
  show (r.note.extract 0 (min r.note.size 9)).size ≤ maxLen
  rw [ByteArray.size_extract]
  unfold maxLen at *
  omega⟩

set_option maxRecDepth 100000 in
set_option maxHeartbeats 2000000 in
theorem short_any (t id v : Int) (s : ByteArray) (w : World) (hs : s.size ≤ maxLen) :
    Calls Try.prog 16 #[.agg #[.int .i64 t, .int .u16 id, .int .i64 v, .string s]] w (fun e w' => e = .returned (.agg #[.int .i64 t, .int .u16 id, .int .i64 v, .string (s.extract 0 (min s.size 9))]) ∧ Below w.heap.size w w') := by
  unfold maxLen at hs
  obtain ⟨m, hm⟩ : ∃ m : Nat, m = min s.size 9 := ⟨_, rfl⟩
  have hmn : min (s.size : Int) 9 = (m : Int) := by omega
  have hms : m ≤ s.size := by omega
  have hmi : (m : Int) ≤ s.size := by omega
  have hm0 : (0 : Int) ≤ m := by omega
  rw [← hm]
  obtain ⟨S, hS⟩ : ∃ S, s.extract 0 m = S := ⟨_, rfl⟩
  obtain ⟨W, hW⟩ : ∃ W, (w.alloc (.cells #[.int .i64 t, .int .u16 id, .int .i64 v, .string S] 42)).alloc (.cells #[.int .i64 0, .int .u16 0, .int .i64 0, .string ⟨#[]⟩] 42) = W := ⟨_, rfl⟩
  have hbx := Lib.hid (two_boxes (xs := [.int .i64 t, .int .u16 id, .int .i64 v, .string S]) (ys := [.int .i64 0, .int .u16 0, .int .i64 0, .string ⟨#[]⟩]) hW)
  have hres : Hid (RowV 42 W (w.heap.size + 1) [.int .i64 0, .int .u16 0, .int .i64 0, .string ⟨#[]⟩]) := by
    have h0 := RowV.made (T := 42) (w.alloc (.cells #[.int .i64 t, .int .u16 id, .int .i64 v, .string S] 42)) [.int .i64 0, .int .u16 0, .int .i64 0, .string ⟨#[]⟩]
    show RowV _ _ _ _
    rw [← hW]; simpa using h0
  have hs2 := sizeRow t id v S
  have z1 : ∀ x ∈ ([.int .i64 t, .int .u16 id, .int .i64 v, .string S] : List Value), x.oneCell' = true := RowD.one ⟨⟨t, id⟩, v, S⟩
  clear hm
  go_enter Try.func16, Try.ntmps16
  go_wp2_with (first
    | (with_reducible refine wpList_load_at rfl 42 (.tmp 1) rfl Try.underlying42 rfl hs2 rfl hbx.out.2.1.all ?_)
    | ((with_reducible refine wpList_store_at rfl 42 (.tmp 2) (.tmp 11) rfl (o := 0) (vs := [.int .i64 t, .int .u16 id, .int .i64 v, .string S]) rfl rfl hres.out hs2 (Nat.le_refl _) z1 ?_)
       intro w9 h9 hg9
       have q9 := Lib.hid h9
       have hg9' := Lib.hid hg9
       clear h9 hg9))
  have s9 : RowV 42 w9 (w.heap.size + 1) [.int .i64 t, .int .u16 id, .int .i64 v, .string S] := q9.out
  have m0 := s9.cell 0
  have m1 := s9.cell 1
  have m2 := s9.cell 2
  have m3 := s9.cell 3
  simp only [List.getElem?_cons_zero, List.getElem?_cons_succ] at m0 m1 m2 m3
  exact bodyPost_ret (v := .agg #[.int .i64 t, .int .u16 id, .int .i64 v, .string S]) (by simp [results, Try.results16, go_sem, m0, m1, m2, m3]) rfl ⟨by rw [hS], Gr.below hg9'.out hbx.out.1 (by omega)⟩

def fewC (c : ContD) : ContD := ⟨c.kind, (c.rows.take 5).map shortR, c.kids.take 5⟩
theorem few_step {L : List RowD} {k : Nat} {r : RowD} (h : L[k]? = some r) (hk : k ≤ 4) : ((L.take (k + 1)).take 5).map shortR = ((L.take k).take 5).map shortR ++ [shortR r] := by
  rw [List.take_take, List.take_take, Nat.min_eq_right (show k + 1 ≤ 5 by omega), Nat.min_eq_right (show k ≤ 5 by omega), List.take_add_one, h, List.map_append]
  rfl
theorem few_same {L : List RowD} {k : Nat} (hk : ¬ k ≤ 4) : ((L.take (k + 1)).take 5).map shortR = ((L.take k).take 5).map shortR := by
  rw [List.take_take, List.take_take, Nat.min_eq_left (show 5 ≤ k + 1 by omega), Nat.min_eq_left (show 5 ≤ k by omega)]
theorem OwnK.empty (w : World) : OwnK (w.alloc (.cells #[] 56)) w.heap.size (.slice (some ⟨w.heap.size, 0, none⟩) 0 0) [] :=
  ⟨rfl, .inr ⟨_, 0, #[], rfl, Nat.le_refl _, heap_alloc_new w _, Nat.le_refl _, Nat.zero_le _, rfl, rfl⟩⟩
def FewPost (c : ContD) (w : World) (e : Ending) (w' : World) : Prop :=
  ∃ k rq rn rc kq kn kc, e = .returned (.agg #[.int .i64 k, .slice rq rn rc, .slice kq kn kc]) ∧ ContOn w' k rq rn rc kq kn kc (fewC c) ∧ Below w.heap.size w w'

set_option maxRecDepth 100000 in
set_option maxHeartbeats 4000000 in
theorem few_any (k : Int) (rq : Option Addr) (rn rc : Nat) (kq : Option Addr) (kn kc : Nat) (c : ContD) (w : World) (h : ContOn w k rq rn rc kq kn kc c) :
    Calls Try.prog 8 #[.agg #[.int .i64 k, .slice rq rn rc, .slice kq kn kc]] w (FewPost c w) := by
  obtain ⟨W, hW⟩ : ∃ W, (w.alloc (.cells #[.int .i64 k, .slice rq rn rc, .slice kq kn kc] 27)).alloc (.cells #[.int .i64 0, .slice none 0 0, .slice none 0 0] 27) = W := ⟨_, rfl⟩
  have hbx := Lib.hid (two_boxes (xs := [.int .i64 k, .slice rq rn rc, .slice kq kn kc]) (ys := [.int .i64 0, .slice none 0 0, .slice none 0 0]) hW)
  have hbox : Hid (RowV 27 W w.heap.size [.int .i64 k, .slice rq rn rc, .slice kq kn kc]) := by
    have h0 := (RowV.made (T := 27) w [.int .i64 k, .slice rq rn rc, .slice kq kn kc]).below ((Below.refl _ _).alloc (Nat.le_refl _) (.cells #[.int .i64 0, .slice none 0 0, .slice none 0 0] 27))
    show RowV _ _ _ _
    rw [← hW]; exact h0
  have hres : Hid (RowV 27 W (w.heap.size + 1) [.int .i64 0, .slice none 0 0, .slice none 0 0]) := by
    have h0 := RowV.made (T := 27) (w.alloc (.cells #[.int .i64 k, .slice rq rn rc, .slice kq kn kc] 27)) [.int .i64 0, .slice none 0 0, .slice none 0 0]
    show RowV _ _ _ _
    rw [← hW]; simpa using h0
  have hrr := Lib.hid (h.rows.below hbx.out.1 (Nat.le_refl _))
  have hkk := Lib.hid (h.kids.below hbx.out.1 (Nat.le_refl _))
  have hck := Lib.hid h.kind
  have hrm := Nat.le_trans h.rows.le h.rows.cap
  have hkm := Nat.le_trans h.kids.le h.kids.cap
  have hknc := h.kids.le
  unfold maxLen at hrm hkm
  have c1 := hbx.out.2.1.cell 1 rfl
  have hr0 : Hid (Below W.heap.size W W ∧ OwnR 42 W W.heap.size (.slice none 0 0) (((c.rows.take 0).take 5).map shortR)) := ⟨Below.refl _ _, OwnR.nil _ _ _⟩
  clear h
  go_enter Try.func8, Try.ntmps8
  go_wp2
  clear hW c1
  go_loopw [3, 9] (fun v3 v9 wr => ∃ (j : Nat) (q0 : Option Addr) (n0 c0 : Nat), j ≤ rn ∧ v9 = .int .i64 j ∧ v3 = .slice q0 n0 c0 ∧ Hid (Below W.heap.size W wr ∧ OwnR 42 wr W.heap.size (.slice q0 n0 c0) (((c.rows.take j).take 5).map shortR))) (fun _ v9 _ => rn - (RowKit.intOf v9).toNat)
  case atStart => exact ⟨0, none, 0, 0, Nat.zero_le _, rfl, rfl, hr0⟩
  case round =>
    obtain ⟨j, q0, n0, c0, hj, rfl, rfl, hrl⟩ := hrel
    have hn0 : n0 ≤ 5 := by
      have h := hrl.out.2.len
      rw [List.length_map, List.length_take] at h
      omega
    by_cases hlt : j < rn
    · obtain ⟨A, ⟨⟨t, id⟩, v, s⟩, hqA, hx, hok, hcA⟩ := (hrr.out.below hrl.out.1 (Nat.le_refl _)).at hlt
      subst hqA
      have hcell : Hid (∀ j' x, ([.int .i64 t, .int .u16 id, .int .i64 v, .string s] : List Value)[j']? = some x → wr.cell? ((A.add (j * 4)).add j') = some x) := hcA
      have hs2 := sizeRow t id v s
      have hx' := Lib.hid hx
      have hok' := Lib.hid (shortR_ok hok)
      have hsn := Lib.hid hok.note
      obtain ⟨WA, hWA⟩ : ∃ W', wr.alloc (.cells #[.int .i64 t, .int .u16 id, .int .i64 v, .string s] 42) = W' := ⟨_, rfl⟩
      have hbA := Lib.hid (one_box (xs := [.int .i64 t, .int .u16 id, .int .i64 v, .string s]) hWA)
      have hdA := Lib.hid (hrl.out.1.trans (hbA.out.1.mono hrl.out.1.size))
      have hoA := Lib.hid (hrl.out.2.below hbA.out.1)
      clear hx hok hcA
      by_cases h4 : j ≤ 4
      · have hst := Lib.hid (few_step hx'.out h4)
        have h4' : (j : Int) ≤ 4 := by omega
        go_wp2_with (first
          | (with_reducible refine wpList_load_at rfl 42 (.tmp 12) rfl Try.underlying42 rfl hs2 rfl hcell.out ?_)
          | (with_reducible refine wpList_load_at rfl 42 (.tmp 5) rfl Try.underlying42 rfl hs2 rfl hbA.out.2.1.all ?_))
        clear hWA
        refine (short_any t id v s WA hsn.out).mono ?_
        rintro e w5 ⟨rfl, hb5⟩
        obtain ⟨S, hS⟩ : ∃ S, s.extract 0 (min s.size 9) = S := ⟨_, rfl⟩
        have hok2 : Hid (RowOk ⟨⟨t, id⟩, v, S⟩) := by have h := hok'.out; unfold shortR at h; rw [hS] at h; exact h
        have hst2 : Hid (((c.rows.take (j + 1)).take 5).map shortR = ((c.rows.take j).take 5).map shortR ++ [⟨⟨t, id⟩, v, S⟩]) := by
          show _ = _
          rw [hst.out]
          unfold shortR
          rw [hS]
        rw [hS]
        have hd5 := Lib.hid (hdA.out.trans (hb5.mono hdA.out.size))
        have ho5 := Lib.hid (hoA.out.below hb5)
        clear hb5 hS
        obtain ⟨W6, hW6⟩ : ∃ W6, w5.alloc (.cells #[.int .i64 t, .int .u16 id, .int .i64 v, .string S] 42) = W6 := ⟨_, rfl⟩
        have hb6 := Lib.hid (one_box (xs := [.int .i64 t, .int .u16 id, .int .i64 v, .string S]) hW6)
        have hrow : Hid (RowsOn W6 (some ⟨w5.heap.size, 0, none⟩) 1 1 [⟨⟨t, id⟩, v, S⟩]) := by
          have h0 := RowV.made (T := 42) w5 [.int .i64 t, .int .u16 id, .int .i64 v, .string S]
          rw [hW6] at h0
          exact RowV.rows1 (r := ⟨⟨t, id⟩, v, S⟩) h0 hok2.out
        have hd6 := Lib.hid (hd5.out.trans (hb6.out.1.mono hd5.out.size))
        have ho6 := Lib.hid (ho5.out.below hb6.out.1)
        have hsz6 := Lib.hid hd6.out.size
        have h40 : Hid ((n0 + 1) * 40 ≤ 140737488355328) := by show _ ≤ _; omega
        have h41 : Hid (n0 + 1 ≤ 140737488355328) := by show _ ≤ _; omega
        go_wp2_with (first
          | (at_builtin
             refine wpList_append_r Try.underlying23 infoRow rfl rfl (.tmp 16) (.tmp 19) rfl rfl rfl ho6.out hrow.out h40.out h41.out hsz6.out ?_
             intro q' c' w' h1 h2 h3
             have hnew : Hid (Below W.heap.size W w' ∧ OwnR 42 w' W.heap.size (.slice q' (n0 + 1) c') (((c.rows.take (j + 1)).take 5).map shortR)) := ⟨hd6.out.trans (grown_belowN h2 hd6.out.size (fun a ha => by
               cases q0 with
               | none => cases ha
               | some a0 => cases ha; exact (ho6.out.far a0 rfl).1)), by rw [hst2.out]; exact h1⟩
             clear h1 h2 h3))
        go_roundw
        case rel => exact ⟨j + 1, q', n0 + 1, c', by omega, by go_num, rfl, hnew⟩
        case measure => simp [RowKit.intOf]; omega
      · have hnew : Hid (Below W.heap.size W WA ∧ OwnR 42 WA W.heap.size (.slice q0 n0 c0) (((c.rows.take (j + 1)).take 5).map shortR)) := ⟨hdA.out, by rw [few_same h4]; exact hoA.out⟩
        have h4' : ¬ (j : Int) ≤ 4 := by omega
        go_wp2_with (first
          | (with_reducible refine wpList_load_at rfl 42 (.tmp 12) rfl Try.underlying42 rfl hs2 rfl hcell.out ?_))
        go_roundw
        case rel => exact ⟨j + 1, q0, n0, c0, by omega, by go_num, rfl, hnew⟩
        case measure => simp [RowKit.intOf]; omega
    · obtain rfl : rn = j := by omega
      have hall : Hid (((c.rows.take rn).take 5).map shortR = (c.rows.take 5).map shortR) := by
        show _ = _
        rw [List.take_of_length_le (l := c.rows) (by rw [hrr.out.len]; exact Nat.le_refl _)]
      have hor : Hid (OwnR 42 wr W.heap.size (.slice q0 n0 c0) ((c.rows.take 5).map shortR)) := by
        have h := hrl.out.2
        rw [hall.out] at h
        exact h
      have hdr := Lib.hid hrl.out.1
      obtain ⟨mk, hmk⟩ : ∃ mk : Nat, mk = min kn 5 := ⟨_, rfl⟩
      have hmn : min (kn : Int) 5 = (mk : Int) := by omega
      have hmkn : mk ≤ kn := by omega
      have hsl := fun u => slice_kids kq kn kc mk hmkn hknc u
      have hk5 : Hid (c.kids.take mk = c.kids.take 5) := by
        show _ = _
        have hl := hkk.out.len
        rw [hmk]
        rcases Nat.le_total kn 5 with h | h
        · rw [Nat.min_eq_left h, List.take_of_length_le (by omega), List.take_of_length_le (by omega)]
        · rw [Nat.min_eq_right h]
      obtain ⟨W1, hW1⟩ : ∃ W1, wr.alloc (.cells #[] 56) = W1 := ⟨_, rfl⟩
      have hb1 : Hid (Below wr.heap.size wr W1) := by rw [← hW1]; exact (Below.refl _ _).alloc (Nat.le_refl _) _
      have hownK : Hid (OwnK W1 wr.heap.size (.slice (some ⟨wr.heap.size, 0, none⟩) 0 0) []) := by rw [← hW1]; exact OwnK.empty wr
      have hd1 := Lib.hid (hdr.out.trans (hb1.out.mono hdr.out.size))
      have e2 := (hbx.out.2.1.below hd1.out (Nat.le_refl _)).cell 2 rfl
      have hkids : Hid (KidsOn W1 kq mk kc (c.kids.take mk)) := (hkk.out.below hd1.out (Nat.le_refl _)).front hmkn
      have h24 : Hid ((0 + mk) * 24 ≤ 140737488355328) := by show _ ≤ _; omega
      have h41 : Hid (0 + mk ≤ 140737488355328) := by show _ ≤ _; omega
      have hsz := Lib.hid hb1.out.size
      clear hmk
      go_wp2_with (first
        | (at_builtin
           refine wpList_append_k Try.underlying25 infoKid rfl rfl (.tmp 23) (.tmp 30) rfl rfl rfl hownK.out hkids.out h24.out h41.out hsz.out ?_
           intro q' c' w2 h1 h2 h3
           rw [Nat.zero_add, List.nil_append] at h1
           rw [Nat.zero_add]
           have hok2 := Lib.hid h1
           have hd2r : Hid (Below wr.heap.size wr w2) := hb1.out.trans (grown_belowN h2 hb1.out.size (fun a ha => by cases ha; exact Nat.le_refl _))
           clear h1 h2 h3 e2
           have hd2 := Lib.hid (hdr.out.trans (hd2r.out.mono hdr.out.size))
           have bx2 := Lib.hid (hbox.out.below hd2.out)
           have rs2 := Lib.hid (hres.out.below hd2.out)
           have bx3 := Lib.hid (bx2.out.set 1 (.slice q0 n0 c0))
           have bx4 := Lib.hid (bx3.out.set 2 (.slice q' mk c'))
           have g1 := bx2.out.cell 1
           have g2 := bx2.out.free 1
           have g3 := bx3.out.cell 2
           have g4 := bx3.out.free 2
           simp only [List.getElem?_cons_zero, List.getElem?_cons_succ, List.set_cons_zero, List.set_cons_succ] at g1 g3
           obtain ⟨W3, hW3⟩ : ∃ W3, (w2.setCell ⟨w.heap.size, 1, none⟩ (.slice q0 n0 c0)).setCell ⟨w.heap.size, 2, none⟩ (.slice q' mk c') = W3 := ⟨_, rfl⟩
           have hg3 : Hid (w2.grownBy W3 (some w.heap.size)) := by rw [← hW3]; exact Gr.trans set_grown set_grown
           have bx5 : Hid (RowV 27 W3 w.heap.size [.int .i64 k, .slice q0 n0 c0, .slice q' mk c']) := by have h := bx4.out; rw [hW3] at h; exact h
           have rs3 := Lib.hid (rs2.out.kept hg3.out (by omega))
           have hs5 := sizeCont (.int .i64 k) (.slice q0 n0 c0) (.slice q' mk c')
           have hall5 : Hid (∀ j' x, ([.int .i64 k, .slice q0 n0 c0, .slice q' mk c'] : List Value)[j']? = some x → W3.cell? ((⟨w.heap.size, 0, none⟩ : Addr).add j') = some x) := bx5.out.part (pre := []) (rest := []) (by simp) rfl)
        | (with_reducible refine wpList_load_at rfl 27 (.tmp 1) rfl Try.underlying27 rfl hs5 rfl hall5.out ?_)
        | ((with_reducible refine wpList_store_at rfl 27 (.tmp 2) (.tmp 34) rfl (o := 0) (vs := [.int .i64 k, .slice q0 n0 c0, .slice q' mk c']) rfl rfl rs3.out hs5 (Nat.le_refl _) (cont_one _ _ _ _ _ _ _) ?_)
           intro w9 h9 hg9
           have q9 := Lib.hid h9
           have hg9' := Lib.hid hg9
           clear h9 hg9))
      have s9 : RowV 27 w9 (w.heap.size + 1) [.int .i64 k, .slice q0 n0 c0, .slice q' mk c'] := q9.out
      have m0 := s9.cell 0
      have m1 := s9.cell 1
      have m2 := s9.cell 2
      simp only [List.getElem?_cons_zero, List.getElem?_cons_succ] at m0 m1 m2
      refine bodyPost_ret (v := .agg #[.int .i64 k, .slice q0 n0 c0, .slice q' mk c']) (by simp [results, Try.results8, go_sem, m0, m1, m2]) rfl ?_
      have hWs := hbx.out.2.2.2
      have hfr : ∀ a, q0 = some a → a.block ≠ w.heap.size ∧ a.block ≠ w.heap.size + 1 := fun a ha => by have := (hor.out.far a ha).1; omega
      have hfk : ∀ a, q' = some a → a.block ≠ w.heap.size ∧ a.block ≠ w.heap.size + 1 := fun a ha => by have := (hok2.out.far a ha).1; have := hdr.out.size; omega
      have hrows : RowsOn wr q0 n0 c0 ((c.rows.take 5).map shortR) := hor.out.reads (fun r hr => by
        obtain ⟨x, hx, rfl⟩ := List.mem_map.1 hr
        exact shortR_ok (hrr.out.ok x (List.mem_of_mem_take hx)))
      have hkids2 : KidsOn w2 q' mk c' (c.kids.take 5) := by
        rw [← hk5.out]
        exact hok2.out.reads (fun r hr => hkk.out.ok r (List.mem_of_mem_take hr))
      refine ⟨k, q0, n0, c0, q', mk, c', rfl, ⟨hck.out, ?_, ?_⟩, ?_⟩
      · exact ((hrows.below hd2r.out (Nat.le_refl _)).gr hg3.out (fun a ha => (hfr a ha).1)).gr hg9'.out (fun a ha => (hfr a ha).2)
      · exact (hkids2.gr hg3.out (fun a ha => (hfk a ha).1)).gr hg9'.out (fun a ha => (hfk a ha).2)
      · exact Gr.below hg9'.out (Gr.below hg3.out (hbx.out.1.trans (hd2.out.mono hbx.out.1.size)) (Nat.le_refl _)) (by omega)
end Go.Proofs.Ytcniolmihpkmmaa
