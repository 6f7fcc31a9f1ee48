/- What Ask does to a queue: grant, or lineUp, behind a closure. -/
import Derived.Test.YtbgpppbcffpdbaaGreatDoorLGe
namespace Go.Proofs.YtbgpppbcffpdbaaGreatDoor
open Go.RowKit

set_option maxRecDepth 100000 in
set_option maxHeartbeats 1000000 in
theorem ask1_any (lo G n c i o : Nat) (ho : o = i * 5) (V : List QV) (v : QV) (hs : List HoldD) (wx wm wh : Int) (w : World) (hlo : lo ≤ w.heap.size) (hrow : OwnS 43 w lo (.slice (some ⟨G, 0, none⟩) n c) V) (hv : V[i]? = some v)
    (hown : OwnS 45 w lo (.slice v.hq v.hn v.hc) hs) (hne : ∀ a, v.hq = some a → a.block ≠ G) (hso : SortH hs) (hsm : v.hn ≤ 1000000) (B : Nat) (hB : Boxed w B [.int .i64 wx, .int .i64 wm, .int .i64 wh]) :
    Calls Tryz.prog 69 #[.pointer (some ⟨G, o, none⟩), .pointer (some ⟨B, 0, none⟩)] w (GrPost lo G n c i V v (grantH hs ⟨wx, wm⟩) w) := by
  have hc := Lib.hid (grant_any lo G n c i o ho V v hs wx wm wh w hlo hrow hv hown hne hso hsm)
  have hb := Lib.hid hB
  have s3 := sizeWait (.int .i64 wx) (.int .i64 wm) (.int .i64 wh)
  clear hrow hv hown hne hsm hB hso hlo ho
  go_enter Tryz.func69, Tryz.ntmps69
  go_wp2_with (first
    | (with_reducible refine wpList_load_at rfl 47 (.tmp 1) rfl Tryz.underlying47 rfl s3 rfl hb.out.all ?_))
  refine hc.out.mono ?_
  intro e w' hp
  have hp' := Lib.hid hp
  obtain ⟨_, _, _, rfl, _⟩ := hp
  go_wp2
  go_end0
  exact hp'.out

set_option maxRecDepth 100000 in
set_option maxHeartbeats 1000000 in
theorem ask2_any (lo G n c i o : Nat) (ho : o = i * 5) (V : List QV) (v : QV) (ws : List WaitD) (wx wm wh : Int) (p : Nat) (hp : LineAt ws ⟨wx, wm, wh⟩ p) (w : World) (hlo : lo ≤ w.heap.size) (hrow : OwnS 43 w lo (.slice (some ⟨G, 0, none⟩) n c) V) (hv : V[i]? = some v)
    (hown : OwnS 47 w lo (.slice v.wq v.wn v.wc) ws) (hne : ∀ a, v.wq = some a → a.block ≠ G) (hsm : v.wn ≤ 1000000) (B : Nat) (hB : Boxed w B [.int .i64 wx, .int .i64 wm, .int .i64 wh]) :
    Calls Tryz.prog 71 #[.pointer (some ⟨G, o, none⟩), .pointer (some ⟨B, 0, none⟩)] w (LnPost lo G n c i V v (ws.take p ++ ⟨wx, wm, wh⟩ :: ws.drop p) w) := by
  have hc := Lib.hid (lineUp_any lo G n c i o ho V v ws wx wm wh p hp w hlo hrow hv hown hne hsm)
  have hb := Lib.hid hB
  have s3 := sizeWait (.int .i64 wx) (.int .i64 wm) (.int .i64 wh)
  clear hrow hv hown hne hsm hB hp hlo ho
  go_enter Tryz.func71, Tryz.ntmps71
  go_wp2_with (first
    | (with_reducible refine wpList_load_at rfl 47 (.tmp 1) rfl Tryz.underlying47 rfl s3 rfl hb.out.all ?_))
  refine hc.out.mono ?_
  intro e w' hp
  have hp' := Lib.hid hp
  obtain ⟨_, _, _, rfl, _⟩ := hp
  go_wp2
  go_end0
  exact hp'.out
end Go.Proofs.YtbgpppbcffpdbaaGreatDoor
