/- What the laws of ideal share: one, wakes, over and overSerial. -/
import Derived.Test.YtkdkncbccofpdaaIDo
namespace Go.Proofs.Ytkdkncbccofpdaa
open Go.RowKit
set_option maxRecDepth 100000

def bs1 : List BdD := [⟨0, 10⟩]
def l1 : List RowD := [⟨⟨0, 1⟩, 4, ⟨#[]⟩⟩]
def q6 : ReqD := ⟨7, ⟨0, 1⟩, ⟨0, 0⟩, 6, ⟨#[]⟩, 0⟩
def q7 : ReqD := ⟨7, ⟨0, 1⟩, ⟨0, 0⟩, 7, ⟨#[]⟩, 0⟩
theorem wk6 : doM bs1 l1 q6 = ([⟨⟨0, 1⟩, 10, ⟨#[]⟩⟩], ⟨0, [], 0⟩) := by rfl
theorem wk7 : doM bs1 l1 q7 = (l1, ⟨152, [], 0⟩) := by rfl

set_option maxHeartbeats 1000000 in
theorem one_any (w : World) :
    Calls Try.prog 33 #[] w (fun e w' => ∃ q, e = .returned (.agg #[.slice q 1 1]) ∧ SlOn w' q 1 1 bs1 ∧ Below w.heap.size w w') := by
  obtain ⟨W, hW⟩ : ∃ W, (w.alloc (.cells #[.slice none 0 0] 24)).alloc (.cells #[.int .i64 0, .int .i64 10] 75) = W := ⟨_, rfl⟩
  have hbx := Lib.hid (two_rowsI (xs := [.slice none 0 0]) (ys := [.int .i64 0, .int .i64 10]) hW)
  have hs := sizeSch (some ⟨w.heap.size + 1, 0, none⟩) 1 1
  go_enter Try.func33, Try.ntmps33
  go_wp2_with (first
    | ((with_reducible refine wpList_store_at rfl 24 (.tmp 0) (.tmp 3) rfl (o := 0) (vs := [.slice (some ⟨w.heap.size + 1, 0, none⟩) 1 1]) rfl rfl hbx.out.2.1 hs (Nat.le_refl _) (by simp [Value.oneCell']) ?_)
       intro w9 h9 hg9
       have h9' : Hid (RowV 24 w9 w.heap.size [.slice (some ⟨w.heap.size + 1, 0, none⟩) 1 1]) := h9
       have hg9' := Lib.hid hg9
       clear h9 hg9))
  have m0 := h9'.out.cell 0
  simp only [List.getElem?_cons_zero] at m0
  refine bodyPost_ret (v := .agg #[.slice (some ⟨w.heap.size + 1, 0, none⟩) 1 1]) (by simp [results, Try.results33, go_sem, m0]) rfl ?_
  have hrow := hbx.out.2.2.1.kept hg9'.out (by omega)
  refine ⟨_, rfl, (OwnS.single (r := (⟨0, 10⟩ : BdD)) hrow).reads, hbx.out.1.grown hg9'.out hbx.out.1.size (fun k hk => by cases hk; exact Nat.le_refl _)⟩

set_option maxHeartbeats 4000000 in
theorem wakes_any (w : World) : Calls Try.prog 9 #[] w (fun e w' => e = .returned (.bool true) ∧ Below w.heap.size w w') := by
  obtain ⟨W, hW⟩ : ∃ W, w.alloc (.cells #[.int .i64 0, .int .u16 1, .int .i64 4, .string ⟨#[]⟩] 68) = W := ⟨_, rfl⟩
  have hbx := Lib.hid (one_rowI (xs := [.int .i64 0, .int .u16 1, .int .i64 4, .string ⟨#[]⟩]) hW)
  have hb0 := Lib.hid hbx.out.1
  have hl0 : Hid (RowsOn W (some ⟨w.heap.size, 0, none⟩) 1 1 l1) := RowV.rows1 (r := ⟨⟨0, 1⟩, 4, ⟨#[]⟩⟩) hbx.out.2.1 ⟨⟨by unfold I64; decide, by decide⟩, by unfold I64; decide, Nat.zero_le _⟩
  have hok6 : ReqOk q6 := ⟨by unfold I64; decide, ⟨by unfold I64; decide, by decide⟩, ⟨by unfold I64; decide, by decide⟩, by unfold I64; decide, Nat.zero_le _, by unfold I64; decide⟩
  have hok7 : ReqOk q7 := ⟨by unfold I64; decide, ⟨by unfold I64; decide, by decide⟩, ⟨by unfold I64; decide, by decide⟩, by unfold I64; decide, Nat.zero_le _, by unfold I64; decide⟩
  have hbok : ∀ b ∈ bs1, I64 b.lo ∧ I64 b.hi := by
    intro b hb
    simp only [bs1, List.mem_singleton] at hb
    subst hb
    exact ⟨by unfold I64; decide, by unfold I64; decide⟩
  clear hbx
  go_enter Try.func9, Try.ntmps9
  go_wp2_with fail
  clear hW
  refine (one_any W).mono ?_
  rintro e w1 ⟨q1, rfl, hq1, hb⟩
  have hb1 := Lib.hid (hb0.out.trans (hb.mono hb0.out.size))
  have hl1 := Lib.hid (hl0.out.below hb (Nat.le_refl _))
  have hq1' := Lib.hid hq1
  clear hb hq1 hb0 hl0
  go_wp2_with fail
  refine (do_any q1 1 1 (some ⟨w.heap.size, 0, none⟩) 1 1 7 0 1 0 0 6 ⟨#[]⟩ 0 bs1 l1 w1 hq1'.out hbok hl1.out (by decide) hok6).mono ?_
  rintro e w2 ⟨jq, jn, jc, ⟨ae, aq, an, ac, ak⟩, he, ho, hn, hb⟩
  have hw6 : doM bs1 l1 ⟨7, ⟨0, 1⟩, ⟨0, 0⟩, 6, ⟨#[]⟩, 0⟩ = ([⟨⟨0, 1⟩, 10, ⟨#[]⟩⟩], ⟨0, [], 0⟩) := wk6
  rw [hw6] at ho hn
  have e1 : ae = 0 := hn.e
  subst e1
  have e2 : jn = 1 := ho.reads.len.symm
  subst e2
  have he' : e = .returned (.tuple #[.slice jq 1 jc, .agg #[.int .i64 0, .slice aq an ac, .int .i64 ak]]) := he
  subst he'
  obtain ⟨V2, hV2⟩ : ∃ V, w2.alloc (.cells #[.int .i64 0, .slice aq an ac, .int .i64 ak] 35) = V := ⟨_, rfl⟩
  have hbx2 := one_rowI (xs := [.int .i64 0, .slice aq an ac, .int .i64 ak]) hV2
  have hbV := hb.trans (hbx2.1.mono hb.size)
  have hb2 := Lib.hid (hb1.out.trans (hbV.mono hb1.out.size))
  have hl2 := Lib.hid (hl1.out.below hbV (Nat.le_refl _))
  have ho2 := Lib.hid (ho.below hbx2.1)
  have ha2 := Lib.hid hbx2.2.1
  clear he ho hn hb hbx2 hbV hb1 hl1 hw6
  go_wp2_with fail
  clear hV2
  refine (one_any V2).mono ?_
  rintro e w3 ⟨q3, rfl, hq3, hb⟩
  have hb3 := Lib.hid (hb2.out.trans (hb.mono hb2.out.size))
  have hl3 := Lib.hid (hl2.out.below hb (Nat.le_refl _))
  have ho3 := Lib.hid (ho2.out.below hb)
  have ha3 := Lib.hid (ha2.out.below hb)
  have hq3' := Lib.hid hq3
  clear hb hq3 hb2 hl2 ho2 ha2
  go_wp2_with fail
  refine (do_any q3 1 1 (some ⟨w.heap.size, 0, none⟩) 1 1 7 0 1 0 0 7 ⟨#[]⟩ 0 bs1 l1 w3 hq3'.out hbok hl3.out (by decide) hok7).mono ?_
  rintro e w4 ⟨kq, kn, kc, ⟨be, bq, bn, bc, bk⟩, he, ho, hn, hb⟩
  have hw7 : doM bs1 l1 ⟨7, ⟨0, 1⟩, ⟨0, 0⟩, 7, ⟨#[]⟩, 0⟩ = (l1, ⟨152, [], 0⟩) := wk7
  rw [hw7] at ho hn
  have e1 : be = 152 := hn.e
  subst e1
  have he' : e = .returned (.tuple #[.slice kq kn kc, .agg #[.int .i64 152, .slice bq bn bc, .int .i64 bk]]) := he
  subst he'
  obtain ⟨V4, hV4⟩ : ∃ V, w4.alloc (.cells #[.int .i64 152, .slice bq bn bc, .int .i64 bk] 35) = V := ⟨_, rfl⟩
  have hbx4 := one_rowI (xs := [.int .i64 152, .slice bq bn bc, .int .i64 bk]) hV4
  have hbV := hb.trans (hbx4.1.mono hb.size)
  have hb4 := Lib.hid (hb3.out.trans (hbV.mono hb3.out.size))
  have y0 : V4.cell? ⟨w2.heap.size, 0, none⟩ = some (.int .i64 0) := (ha3.out.below hbV).cell 0
  have y1 : V4.cell? ⟨w4.heap.size, 0, none⟩ = some (.int .i64 152) := hbx4.2.1.cell 0
  obtain ⟨A, r, hA, hx, _, hc⟩ := (ho3.out.below hbV).reads.at (show 0 < 1 by decide)
  subst hA
  have hr : r = ⟨⟨0, 1⟩, 10, ⟨#[]⟩⟩ := by simpa using hx.symm
  subst hr
  have y2 : V4.cell? (A.add 2) = some (.int .i64 10) := by have h := hc 2 _ rfl; rw [Nat.zero_mul, add0] at h; exact h
  have y3 : V4.cell? ⟨A.block, A.off + 2, none⟩ = some (.int .i64 10) := y2
  clear he ho hn hb hbx4 hbV hb3 hl3 ho3 ha3 hx hc
  go_wp2
  go_ret
  exact ⟨rfl, hb4.out⟩
end Go.Proofs.Ytkdkncbccofpdaa
