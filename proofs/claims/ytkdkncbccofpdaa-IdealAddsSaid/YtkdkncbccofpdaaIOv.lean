/- over and overSerial of the laws of ideal. -/
import Derived.Test.YtkdkncbccofpdaaIWk
namespace Go.Proofs.Ytkdkncbccofpdaa
open Go.RowKit
set_option maxRecDepth 100000

set_option maxRecDepth 100000 in
set_option maxHeartbeats 2000000 in
theorem over_any (q : Option Addr) (n c : Nat) (lq : Option Addr) (ln lc : Nat) (l : List RowD) (w : World) (hn : n ≤ maxLen) (hr : RowsOn w lq ln lc l) :
    Calls Try.prog 10 #[.agg #[.slice q n c], .slice lq ln lc] w (OverPost w n ln) := by
  have hm := Nat.le_trans hr.le hr.cap
  unfold maxLen at hm hn
  obtain ⟨W, hW⟩ : ∃ W, w.alloc (.cells #[.slice q n c] 24) = W := ⟨_, rfl⟩
  have hbx := Lib.hid (one_box (xs := [.slice q n c]) hW)
  have c0 := hbx.out.2.1.cell 0 rfl
  have hrr := Lib.hid (hr.below hbx.out.1 (Nat.le_refl _))
  clear hr
  by_cases h20 : 20 < n
  · go_enter Try.func10, Try.ntmps10
    go_wp2
    go_ret
    exact ⟨true, rfl, (fun h => by cases h), hbx.out.1⟩
  · by_cases h100 : 100 < ln
    · go_enter Try.func10, Try.ntmps10
      go_wp2
      go_ret
      exact ⟨true, rfl, (fun h => by cases h), hbx.out.1⟩
    · go_enter Try.func10, Try.ntmps10
      go_wp2
      clear hW
      have hr0 : Hid (Below W.heap.size W W) := Below.refl _ _
      go_loopw [18] (fun v18 wr => ∃ k : Nat, k ≤ ln ∧ v18 = .int .i64 k ∧ Hid (Below W.heap.size W wr)) (fun v18 _ => ln - (Go.RowKit.intOf v18).toNat)
      case atStart => exact ⟨0, Nat.zero_le _, rfl, hr0⟩
      case round =>
        obtain ⟨k, hk, rfl, hrl⟩ := hrel
        by_cases hlt : k < ln
        · obtain ⟨a, ⟨⟨t, id⟩, v, s⟩, rfl, hx, hok, hc⟩ := (hrr.out.below hrl.out (Nat.le_refl _)).at hlt
          have hcell : Hid (∀ j x, ([.int .i64 t, .int .u16 id, .int .i64 v, .string s] : List Value)[j]? = some x → wr.cell? ((a.add (k * 4)).add j) = some x) := hc
          have hsn := hok.note
          unfold maxLen at hsn
          have hs2 := sizeRow t id v s
          have hb3 := Lib.hid (hrl.out.alloc hrl.out.size (.cells #[.int .i64 t, .int .u16 id, .int .i64 v, .string s] 68))
          clear hx hok hc
          by_cases hs : 100 < s.size
          · go_wp2_with (first
              | (with_reducible refine wpList_load_at rfl 68 (.tmp 20) rfl Try.underlying68 rfl hs2 rfl hcell.out ?_))
            go_ret
            exact ⟨true, rfl, (fun h => by cases h), hbx.out.1.trans (hb3.out.mono hbx.out.1.size)⟩
          · go_wp2_with (first
              | (with_reducible refine wpList_load_at rfl 68 (.tmp 20) rfl Try.underlying68 rfl hs2 rfl hcell.out ?_))
            go_roundw
            case rel => exact ⟨k + 1, by omega, by go_num, hb3⟩
            case measure => simp [Go.RowKit.intOf]; omega
        · obtain rfl : ln = k := by omega
          go_wp2
          go_ret
          exact ⟨false, rfl, (fun _ => ⟨by omega, by omega⟩), hbx.out.1.trans (hrl.out.mono hbx.out.1.size)⟩


/-- what overSerial lets by -/
structure Mod (x : SerD) : Prop where
  bs : x.bs.length ≤ 20
  rows : x.rows.length ≤ 100
  begun : x.begun.length ≤ 100
  marks : x.marks.length ≤ 20
  each : ∀ l ∈ x.marks, l.length ≤ 100
theorem Mod.few {x : SerD} (h : Mod x) : Few x :=
  ⟨by have := h.bs; omega, by have := h.rows; omega, by have := h.begun; omega, by have := h.marks; omega, fun l hl => by have := h.each l hl; omega⟩
def OsPost (x : SerD) (w : World) (e : Ending) (w' : World) : Prop := ∃ b : Bool, e = .returned (.bool b) ∧ (b = false → Mod x) ∧ Below w.heap.size w w'

set_option maxHeartbeats 4000000 in
theorem overS_any (tq : Option Addr) (tn tc : Nat) (rq : Option Addr) (rn rc : Nat) (bq : Option Addr) (bn bc : Nat) (mq : Option Addr) (mn mc : Nat) (o : Bool) (x : SerD) (w : World) (hx : (⟨tq, tn, tc, rq, rn, rc, bq, bn, bc, mq, mn, mc, o⟩ : SV).On w x) :
    Calls Try.prog 19 #[.agg #[.slice tq tn tc, .slice rq rn rc, .slice bq bn bc, .slice mq mn mc, .bool o]] w (OsPost x w) := by
  obtain ⟨W, hW⟩ : ∃ W, w.alloc (.cells #[.slice tq tn tc, .slice rq rn rc, .slice bq bn bc, .slice mq mn mc, .bool o] 46) = W := ⟨_, rfl⟩
  have hbx := Lib.hid (one_rowI (xs := [.slice tq tn tc, .slice rq rn rc, .slice bq bn bc, .slice mq mn mc, .bool o]) hW)
  have b0 := Lib.hid hbx.out.1
  have s0 := Lib.hid hbx.out.2.1
  have y0 : W.cell? ⟨w.heap.size, 0, none⟩ = some (.slice tq tn tc) := s0.out.cell 0
  have y1 : W.cell? ⟨w.heap.size, 1, none⟩ = some (.slice rq rn rc) := s0.out.cell 1
  have hx0 := Lib.hid (hx.below b0.out (Nat.le_refl _))
  have htm : tn ≤ maxLen := Nat.le_trans hx.sch.le hx.sch.cap
  have htn : Hid (x.bs.length = tn) := hx.sch.len
  have hrn : Hid (x.rows.length = rn) := hx.rows.len
  have hbn : Hid (x.begun.length = bn) := hx.begun.len
  have hmn : Hid (x.marks.length = mn) := hx.marks.len
  have hmm : mn ≤ maxLen := by obtain ⟨vs, h1, _⟩ := hx.marks; exact Nat.le_trans h1.le h1.cap
  clear hx hbx
  go_enter Try.func19, Try.ntmps19
  go_wp2_with fail
  clear hW y0 y1
  refine (over_any tq tn tc rq rn rc x.rows W htm hx0.out.rows).mono ?_
  rintro e u1 ⟨B1, rfl, hB1, hb⟩
  have b1 := Lib.hid (b0.out.trans (hb.mono b0.out.size))
  have s1 := Lib.hid (s0.out.below hb)
  have hx1 := Lib.hid (hx0.out.below hb (Nat.le_refl _))
  have hB1' := Lib.hid hB1
  clear hb hB1 s0 b0 hx0
  cases B1 with
  | true =>
    go_wp2
    go_ret
    exact ⟨true, rfl, (fun h => by cases h), b1.out⟩
  | false =>
    have y0 : u1.cell? ⟨w.heap.size, 0, none⟩ = some (.slice tq tn tc) := s1.out.cell 0
    have y2 : u1.cell? ⟨w.heap.size, 2, none⟩ = some (.slice bq bn bc) := s1.out.cell 2
    go_wp2_with fail
    clear y0 y2
    refine (over_any tq tn tc bq bn bc x.begun u1 htm hx1.out.begun).mono ?_
    rintro e u2 ⟨B2, rfl, hB2, hb⟩
    have b2 := Lib.hid (b1.out.trans (hb.mono b1.out.size))
    have s2 := Lib.hid (s1.out.below hb)
    have hx2 := Lib.hid (hx1.out.below hb (Nat.le_refl _))
    have hB2' := Lib.hid hB2
    clear hb hB2 s1 b1 hx1
    cases B2 with
    | true =>
      go_wp2
      go_ret
      exact ⟨true, rfl, (fun h => by cases h), b2.out⟩
    | false =>
      have y3 : u2.cell? ⟨w.heap.size, 3, none⟩ = some (.slice mq mn mc) := s2.out.cell 3
      unfold maxLen at hmm
      by_cases h20 : 20 < mn
      · have e1 : decide ((20 : Int) < mn) = true := by simp; omega
        go_wp2
        go_ret
        exact ⟨true, rfl, (fun h => by cases h), b2.out⟩
      · have e1 : decide ((20 : Int) < mn) = false := by simp; omega
        go_wp2
        clear y3
        go_loopw [26] (fun v26 wr => ∃ k : Nat, k ≤ mn ∧ v26 = .int .i64 k ∧ Hid (Below u2.heap.size u2 wr) ∧ Hid (∀ (i : Nat) (l : List RowD), i < k → x.marks[i]? = some l → l.length ≤ 100)) (fun v26 _ => mn - (Go.RowKit.intOf v26).toNat)
        case atStart => exact ⟨0, Nat.zero_le _, rfl, (show Below _ _ _ from Below.refl _ _), fun i l hi => by omega⟩
        case round =>
          obtain ⟨k, hk, rfl, brr, hp⟩ := hrel
          by_cases hlt : k < mn
          · have hxr := hx2.out.below brr.out (Nat.le_refl _)
            obtain ⟨vs, hvs, hvl, hve⟩ := hxr.marks
            have hvs' : SlOn wr mq mn mc vs := hvs
            obtain ⟨A, ⟨vq, vn, vc⟩, rfl, hv, hcl⟩ := hvs'.at hlt
            obtain ⟨l, hl⟩ : ∃ l, x.marks[k]? = some l := ⟨_, List.getElem?_eq_getElem (by have := hmn.out; omega)⟩
            have ron := Lib.hid (hve k _ l hv hl)
            have hl' := Lib.hid hl
            have c1 : wr.cell? ((A.add (k * 1)).add 0) = some (.slice vq vn vc) := hcl 0 _ rfl
            rw [add0, Nat.mul_one] at c1
            have y0 : wr.cell? ⟨w.heap.size, 0, none⟩ = some (.slice tq tn tc) := (s2.out.below brr.out).cell 0
            clear hvs hvs' hvl hve hv hcl hl hxr
            go_wp2_with fail
            clear c1 y0
            refine (over_any tq tn tc vq vn vc l wr htm ron.out).mono ?_
            rintro e u5 ⟨B3, rfl, hB3, hb⟩
            have b5 := Lib.hid (brr.out.trans (hb.mono brr.out.size))
            have hB3' := Lib.hid hB3
            have hln : Hid (l.length = vn) := ron.out.len
            clear hb hB3
            cases B3 with
            | true =>
              go_wp2
              go_ret
              exact ⟨true, rfl, (fun h => by cases h), b2.out.trans (b5.out.mono b2.out.size)⟩
            | false =>
              go_wp2
              go_roundw
              case rel => exact ⟨k + 1, by omega, by go_num, b5, fun i m hi hm => by
                by_cases e : i = k
                · subst e
                  have hx := hl'.out
                  rw [hx] at hm
                  obtain rfl : l = m := by simpa using hm
                  have h1 := (hB3'.out (by trivial)).2
                  have h2 := hln.out
                  omega
                · exact hp.out i m (by omega) hm⟩
              case measure => simp [Go.RowKit.intOf]; omega
          · obtain rfl : k = mn := by omega
            go_wp2
            go_ret
            refine ⟨false, rfl, (fun _ => ⟨?_, ?_, ?_, ?_, ?_⟩), b2.out.trans (brr.out.mono b2.out.size)⟩
            · have h1 := (hB1'.out (by trivial)).1; have h2 := htn.out; omega
            · have h1 := (hB1'.out (by trivial)).2; have h2 := hrn.out; omega
            · have h1 := (hB2'.out (by trivial)).2; have h2 := hbn.out; omega
            · have h2 := hmn.out; omega
            · intro l hl
              obtain ⟨i, hi⟩ := List.getElem?_of_mem hl
              have h1 := (List.getElem?_eq_some_iff.1 hi).1
              have h2 := hmn.out
              exact hp.out i l (by omega) hi
end Go.Proofs.Ytkdkncbccofpdaa
