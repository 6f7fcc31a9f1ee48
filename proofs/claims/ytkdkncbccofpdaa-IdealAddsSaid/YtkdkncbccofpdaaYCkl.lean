/- CheckKey, CheckRow and CheckList of row. -/
import Derived.Test.YtkdkncbccofpdaaYMbe
import Derived.Deep.RegionHeld3
namespace Go.Proofs.Ytkdkncbccofpdaa
open Go.RowKit

def chkKey (bs : List BdD) (k : KeyD) : Int := if okS bs = true then keyE bs k else 150
def chkRow (bs : List BdD) (r : RowD) : Int := if okS bs = true then rowE bs r else 150
theorem sizeSch (q : Option Addr) (n c : Nat) : (Try.prog.info? 24).map (·.size) = some [Value.slice q n c].length := by kernel_rfl

set_option maxRecDepth 100000 in
set_option maxHeartbeats 2000000 in
theorem checkKey_any (q : Option Addr) (n c : Nat) (bs : List BdD) (t id : Int) (w : World) (h : SchOn w q n c bs) :
    Calls Try.prog 69 #[.agg #[.slice q n c], .agg #[.int .i64 t, .int .u16 id]] w (fun e w' => e = .returned (.int .i64 (chkKey bs ⟨t, id⟩)) ∧ Below w.heap.size w w') := by
  have h1 := Lib.hid h
  clear h
  obtain ⟨W, hW⟩ : ∃ W, (w.alloc (.cells #[.slice q n c] 24)).alloc (.cells #[.int .i64 t, .int .u16 id] 28) = W := ⟨_, rfl⟩
  have hbx := Lib.hid (two_boxes (xs := [.slice q n c]) (ys := [.int .i64 t, .int .u16 id]) hW)
  have hs1 := sizeSch q n c
  have hs2 := sizeKey t id
  have e1 := Lib.hid hbx.out.2.1
  by_cases ho : okS bs = true
  · have hv : chkKey bs ⟨t, id⟩ = keyE bs ⟨t, id⟩ := if_pos ho
    have hc1 := Lib.hid (check_any q n c bs W (h1.out.below hbx.out.1 (Nat.le_refl _)))
    rw [hv]
    rw [schE_ok ho] at hc1
    clear hv ho
    go_enter Try.func69, Try.ntmps69
    go_wp2_with (first
        | (with_reducible refine wpList_load_at rfl 24 (.tmp 2) rfl Try.underlying24 rfl hs1 rfl e1.out.all ?_)
        | (go_at_call 39; refine hc1.out.mono ?_; rintro e w1 ⟨rfl, hb1⟩; have hb2 := Lib.hid hb1; have hb := Lib.hid (hbx.out.1.trans (hb1.mono hbx.out.1.size)); have f1 := Lib.hid (hbx.out.2.1.below hb1 (Nat.le_refl _)); have f2 := Lib.hid (hbx.out.2.2.1.below hb1 (Nat.le_refl _)); clear hb1)
        | (with_reducible refine wpList_load_at rfl 24 (.tmp 2) rfl Try.underlying24 rfl hs1 rfl f1.out.all ?_)
        | (with_reducible refine wpList_load_at rfl 28 (.tmp 3) rfl Try.underlying28 rfl hs2 rfl f2.out.all ?_)
        | (go_at_call 53
           refine (must1_any q n c bs t id 0 _ _ _ ((h1.out.below hb.out (Nat.le_refl _)).below ((Below.refl _ _).alloc (Nat.le_refl _) _) (Nat.le_refl _)) (Boxed.made w1 [fnV 54])).mono ?_
           rintro e w2 ⟨rfl, hb3⟩
           have hb4 := Lib.hid (hb.out.trans ((((Below.refl w1.heap.size w1).alloc (Nat.le_refl _) _).trans (hb3.mono (by simp))).mono hb.out.size))
           clear hb3))
    go_ret
    exact ⟨rfl, hb4.out⟩
  · have hv : chkKey bs ⟨t, id⟩ = 150 := if_neg ho
    have hc1 := Lib.hid (check_any q n c bs W (h1.out.below hbx.out.1 (Nat.le_refl _)))
    rw [hv]
    rw [schE_no ho] at hc1
    clear hv ho
    go_enter Try.func69, Try.ntmps69
    go_wp2_with (first
        | (with_reducible refine wpList_load_at rfl 24 (.tmp 2) rfl Try.underlying24 rfl hs1 rfl e1.out.all ?_)
        | (go_at_call 39; refine hc1.out.mono ?_; rintro e w1 ⟨rfl, hb1⟩; have hb := Lib.hid (hbx.out.1.trans (hb1.mono hbx.out.1.size)); clear hb1))
    go_ret
    exact ⟨rfl, hb.out⟩

set_option maxRecDepth 100000 in
set_option maxHeartbeats 2000000 in
theorem checkRow_any (q : Option Addr) (n c : Nat) (bs : List BdD) (t id v : Int) (s : ByteArray) (w : World) (h : SchOn w q n c bs) (hs : s.size ≤ maxLen) :
    Calls Try.prog 85 #[.agg #[.slice q n c], .agg #[.int .i64 t, .int .u16 id, .int .i64 v, .string s]] w (fun e w' => e = .returned (.int .i64 (chkRow bs ⟨⟨t, id⟩, v, s⟩)) ∧ Below w.heap.size w w') := by
  have h1 := Lib.hid h
  have hss := Lib.hid hs
  clear h hs
  obtain ⟨W, hW⟩ : ∃ W, (w.alloc (.cells #[.slice q n c] 24)).alloc (.cells #[.int .i64 t, .int .u16 id, .int .i64 v, .string s] 68) = W := ⟨_, rfl⟩
  have hbx := Lib.hid (two_boxes (xs := [.slice q n c]) (ys := [.int .i64 t, .int .u16 id, .int .i64 v, .string s]) hW)
  have hs1 := sizeSch q n c
  have hs2 := sizeRow t id v s
  have e1 := Lib.hid hbx.out.2.1
  by_cases ho : okS bs = true
  · have hv : chkRow bs ⟨⟨t, id⟩, v, s⟩ = rowE bs ⟨⟨t, id⟩, v, s⟩ := if_pos ho
    have hc1 := Lib.hid (check_any q n c bs W (h1.out.below hbx.out.1 (Nat.le_refl _)))
    rw [hv]
    rw [schE_ok ho] at hc1
    clear hv ho
    go_enter Try.func85, Try.ntmps85
    go_wp2_with (first
        | (with_reducible refine wpList_load_at rfl 24 (.tmp 2) rfl Try.underlying24 rfl hs1 rfl e1.out.all ?_)
        | (go_at_call 39; refine hc1.out.mono ?_; rintro e w1 ⟨rfl, hb1⟩; have hb2 := Lib.hid hb1; have hb := Lib.hid (hbx.out.1.trans (hb1.mono hbx.out.1.size)); have f1 := Lib.hid (hbx.out.2.1.below hb1 (Nat.le_refl _)); have f2 := Lib.hid (hbx.out.2.2.1.below hb1 (Nat.le_refl _)); clear hb1)
        | (with_reducible refine wpList_load_at rfl 24 (.tmp 2) rfl Try.underlying24 rfl hs1 rfl f1.out.all ?_)
        | (with_reducible refine wpList_load_at rfl 68 (.tmp 3) rfl Try.underlying68 rfl hs2 rfl f2.out.all ?_)
        | (go_at_call 53
           refine (must3_any q n c bs t id v s _ _ ((h1.out.below hb.out (Nat.le_refl _)).below ((Below.refl _ _).alloc (Nat.le_refl _) _) (Nat.le_refl _)) hss.out (Boxed.made w1 [fnV 54, fnV 55, fnV 56])).mono ?_
           rintro e w2 ⟨rfl, hb3⟩
           have hb4 := Lib.hid (hb.out.trans ((((Below.refl w1.heap.size w1).alloc (Nat.le_refl _) _).trans (hb3.mono (by simp))).mono hb.out.size))
           clear hb3))
    go_ret
    exact ⟨rfl, hb4.out⟩
  · have hv : chkRow bs ⟨⟨t, id⟩, v, s⟩ = 150 := if_neg ho
    have hc1 := Lib.hid (check_any q n c bs W (h1.out.below hbx.out.1 (Nat.le_refl _)))
    rw [hv]
    rw [schE_no ho] at hc1
    clear hv ho
    go_enter Try.func85, Try.ntmps85
    go_wp2_with (first
        | (with_reducible refine wpList_load_at rfl 24 (.tmp 2) rfl Try.underlying24 rfl hs1 rfl e1.out.all ?_)
        | (go_at_call 39; refine hc1.out.mono ?_; rintro e w1 ⟨rfl, hb1⟩; have hb := Lib.hid (hbx.out.1.trans (hb1.mono hbx.out.1.size)); clear hb1))
    go_ret
    exact ⟨rfl, hb.out⟩
end Go.Proofs.Ytkdkncbccofpdaa
