/- wakes of the laws on codec. -/
import Derived.Test.YtcniolmihpkmmaaKMath
namespace Go.Proofs.Ytcniolmihpkmmaa
open Go.RowKit

theorem content_det {s s0 s' : St} {c0 c : ContD} {er : Int} (h0 : (s.next 1).e = 0) (h2 : ¬ 2 < s.num 1) (hp : partP s = (c0, 0, s0)) (hg : GoodC c0) (h : ContentIs s c er s') : c = c0 ∧ er = 0 ∧ s' = s0 := by
  unfold ContentIs at h
  rw [if_neg (by simpa using h0), if_neg h2, hp, if_neg (by simp)] at h
  rcases h with ⟨_, h1, h3, h4⟩ | ⟨h1, _⟩
  · exact ⟨h1, h3, h4⟩
  · exact absurd hg h1
def wkB : List UInt8 := [2, 2, 0, 0, 0, 3, 0, 0, 7, 5, 9]
def wkC : ContD := ⟨2, [], [⟨⟨0, 0⟩, 3⟩, ⟨⟨0, 7⟩, 5⟩]⟩
theorem wkC_good : GoodC wkC := .inr (.inr ⟨rfl, ⟨by decide, by decide, fun i k hi => by
  match i, hi with
  | 0, hi =>
    obtain rfl : (⟨⟨0, 0⟩, 3⟩ : KidD) = k := by simpa [wkC] using hi
    decide
  | 1, hi =>
    obtain rfl : (⟨⟨0, 7⟩, 5⟩ : KidD) = k := by simpa [wkC] using hi
    decide
  | i + 2, hi => simp [wkC] at hi⟩, rfl⟩)
theorem wk_take {c : ContD} {n er : Int} (h : TakeC wkB c n er) : c = wkC ∧ n = 10 ∧ er = 0 := by
  obtain ⟨c1, er1, s', hc, hd⟩ := h
  obtain ⟨h1, h2, h3⟩ := content_det (s := ⟨wkB.take 82, 0⟩) (c0 := wkC) (s0 := ⟨[9], 0⟩) rfl (by decide) rfl wkC_good hc
  subst h1 h2 h3
  rcases hd with ⟨hne, _⟩ | ⟨_, h4, h5, h6⟩
  · exact absurd rfl hne
  · exact ⟨h4, h5, h6⟩
theorem wk_three {c : ContD} {n er : Int} (h : TakeC [3] c n er) : er = 161 := by
  obtain ⟨c1, er1, s', hc, hd⟩ := h
  unfold ContentIs at hc
  rw [if_neg (by decide), if_pos (by decide)] at hc
  rcases hd with ⟨_, _, _, h6⟩ | ⟨h0, _⟩
  · rw [h6]; exact hc.2.1
  · rw [hc.2.1] at h0; exact absurd h0 (by decide)
def wkR : RowD := ⟨⟨1, 258⟩, -1, ⟨#[97, 98]⟩⟩
theorem wkR_ok : RowOk wkR := ⟨⟨by unfold I64; exact ⟨by decide, by decide⟩, by decide⟩, by unfold I64; exact ⟨by decide, by decide⟩, by unfold maxLen; decide⟩
theorem holds_at {w : World} {q : Option Addr} {n c : Nat} {l : List UInt8} (h : Lib.HoldsBytes w (.slice q n c) l) {i : Nat} {x : UInt8} (hx : l[i]? = some x) : ∃ a, q = some a ∧ w.cell? (a.add i) = some (.int .u8 (x.toNat : Int)) := by
  obtain ⟨p, cap, he, h1, h2⟩ := h
  cases he
  cases q with
  | none => rw [h1 rfl] at hx; simp at hx
  | some a => exact ⟨a, rfl, h2 a rfl i x hx⟩

set_option maxRecDepth 100000 in
set_option maxHeartbeats 4000000 in
theorem wakes_any (w : World) : Calls Try.prog 7 #[] w (fun e w' => e = .returned (.bool true) ∧ Below w.heap.size w w') := by
  have hrow := Lib.hid (row_any 1 258 (-1) ⟨#[97, 98]⟩ w wkR_ok)
  go_enter Try.func7, Try.ntmps7
  go_wp2_with fail
  refine hrow.out.mono ?_
  clear hrow
  rintro e w1 ⟨q, n, cp, er, rfl, hr, hb1⟩
  rcases hr with ⟨rfl, _, ho⟩ | ⟨_, h151, _⟩
  · have hn : n = 14 := by have h := holds_len ho.holds.1; rw [encRow_len] at h; exact h
    subst hn
    obtain ⟨a, rfl, ha⟩ := holds_at ho.holds.1 (i := 13) (x := 98) rfl
    have ha' := Lib.hid ha
    have hd1 := Lib.hid hb1
    clear ho ha hb1
    obtain ⟨W2, hW2⟩ : ∃ W2, w1.alloc (.cells #[.int .u8 2, .int .u8 2, .int .u8 0, .int .u8 0, .int .u8 0, .int .u8 3, .int .u8 0, .int .u8 0, .int .u8 7, .int .u8 5, .int .u8 9] 5) = W2 := ⟨_, rfl⟩
    have hb2 : Hid (Below w1.heap.size w1 W2) := by rw [← hW2]; exact (Below.refl _ _).alloc (Nat.le_refl _) _
    have hrw : Hid (Row 5 W2 w1.heap.size wkB) := by rw [← hW2]; exact heap_alloc_new _ _
    have htk := Lib.hid (takeContent_any (some ⟨w1.heap.size, 0, none⟩) 11 11 wkB W2 (hrw.out.holds 11) (by decide) (by decide))
    go_wp2_with fail
    clear hW2
    refine htk.out.mono ?_
    clear htk
    rintro e w3 ⟨c, n2, er2, k, rq, rn, rc, kq, kn, kc, ht, rfl, hon, _, _, hb3⟩
    obtain ⟨rfl, rfl, rfl⟩ := wk_take ht
    obtain rfl : k = 2 := hon.kind
    have hkn : kn = 2 := hon.kids.len.symm
    subst hkn
    obtain ⟨A, kd, rfl, hkx, _, hkc⟩ := hon.kids.at (show 1 < 2 by decide)
    have hkd : (⟨⟨0, 7⟩, 5⟩ : KidD) = kd := by simpa [wkC] using hkx
    subst hkd
    have hd3 := Lib.hid (hb2.out.trans (hb3.mono hb2.out.size))
    have hkc' := Lib.hid hkc
    clear ht hon hb3 hkx hkc
    obtain ⟨W4, hW4⟩ : ∃ W4, w3.alloc (.cells #[.int .i64 2, .slice rq rn rc, .slice (some A) 2 kc] 27) = W4 := ⟨_, rfl⟩
    have hb4 := Lib.hid (one_box (xs := [.int .i64 2, .slice rq rn rc, .slice (some A) 2 kc]) hW4)
    obtain ⟨W5, hW5⟩ : ∃ W5, W4.alloc (.cells #[.int .u8 3] 5) = W5 := ⟨_, rfl⟩
    have hb5 : Hid (Below W4.heap.size W4 W5) := by rw [← hW5]; exact (Below.refl _ _).alloc (Nat.le_refl _) _
    have hrw5 : Hid (Row 5 W5 W4.heap.size [3]) := by rw [← hW5]; exact heap_alloc_new _ _
    have htk := Lib.hid (takeContent_any (some ⟨W4.heap.size, 0, none⟩) 1 1 [3] W5 (hrw5.out.holds 1) (by decide) (by decide))
    go_wp2_with fail
    clear hW4 hW5
    refine htk.out.mono ?_
    clear htk
    rintro e w6 ⟨c6, n6, er6, k6, rq6, rn6, rc6, kq6, kn6, kc6, ht6, rfl, _, _, _, hb6⟩
    obtain rfl := wk_three ht6
    obtain ⟨W7, hW7⟩ : ∃ W7, w6.alloc (.cells #[.int .i64 k6, .slice rq6 rn6 rc6, .slice kq6 kn6 kc6] 27) = W7 := ⟨_, rfl⟩
    have hb7 := Lib.hid (one_box (xs := [.int .i64 k6, .slice rq6 rn6 rc6, .slice kq6 kn6 kc6]) hW7)
    have h45 := Lib.hid (hb5.out.trans (hb6.mono hb5.out.size))
    have h47 := Lib.hid (h45.out.trans (hb7.out.1.mono h45.out.size))
    have h37 := Lib.hid (hb4.out.1.trans (h47.out.mono hb4.out.1.size))
    have h17 := Lib.hid (hd3.out.trans (h37.out.mono hd3.out.size))
    have x0 : W7.cell? ⟨a.block, a.off + 13, none⟩ = some (.int .u8 98) := cell_keeps h17.out (Nat.le_refl _) ha'.out
    have x1 := (hb4.out.2.1.below h47.out (Nat.le_refl _)).cell 2 rfl
    have y0 : W7.cell? ⟨A.block, A.off + 3, none⟩ = some (.int .i64 0) := by have h := cell_keeps h37.out (Nat.le_refl _) (hkc'.out 0 _ rfl); rw [add0] at h; exact h
    have y1 : W7.cell? ⟨A.block, A.off + 3 + 1, none⟩ = some (.int .u16 7) := cell_keeps h37.out (Nat.le_refl _) (hkc'.out 1 _ rfl)
    have y2 : W7.cell? ⟨A.block, A.off + 3 + 2, none⟩ = some (.int .i64 5) := cell_keeps h37.out (Nat.le_refl _) (hkc'.out 2 _ rfl)
    have heq := fun u => eq_kid u 0 7 5 0 7 5
    rw [show eqKid ⟨⟨0, 7⟩, 5⟩ ⟨⟨0, 7⟩, 5⟩ = true from rfl] at heq
    clear ht6 hb6
    go_wp2
    go_ret
    exact ⟨rfl, hd1.out.trans (h17.out.mono hd1.out.size)⟩
  · exact absurd h151 (by decide)
end Go.Proofs.Ytcniolmihpkmmaa
