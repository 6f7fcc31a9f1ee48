/- What Release and Leave do to a queue: dropHold and dropWait, behind a closure. -/
import Derived.Test.YtbgpppbcffpdbaaGreatDoorLGe
namespace Go.Proofs.YtbgpppbcffpdbaaGreatDoor
open Go.RowKit

def RlPost (lo G n c i : Nat) (V : List QV) (v : QV) (hs : List HoldD) (ws : List WaitD) (x : Int) (w : World) (e : Ending) (w' : World) : Prop := ∃ m m', e = .returned (.tuple #[]) ∧ OwnS 43 w' lo (.slice (some ⟨G, 0, none⟩) n c) (V.set i { v with hn := m, wn := m' }) ∧ OwnS 45 w' lo (.slice v.hq m v.hc) (hs.filter (fun a => !(a.x == x))) ∧ OwnS 47 w' lo (.slice v.wq m' v.wc) (ws.filter (fun a => !(a.x == x))) ∧ Fr (fun k => InQ G v.hq k ∨ InQ G v.wq k) w w'

set_option maxRecDepth 100000 in
set_option maxHeartbeats 1000000 in
theorem release1_any (lo G n c i o : Nat) (ho : o = i * 5) (V : List QV) (v : QV) (hs : List HoldD) (ws : List WaitD) (x : Int) (w : World) (hrow : OwnS 43 w lo (.slice (some ⟨G, 0, none⟩) n c) V) (hv : V[i]? = some v)
    (hownH : OwnS 45 w lo (.slice v.hq v.hn v.hc) hs) (hownW : OwnS 47 w lo (.slice v.wq v.wn v.wc) ws) (hneH : ∀ a, v.hq = some a → a.block ≠ G) (hneW : ∀ a, v.wq = some a → a.block ≠ G) (hap : ∀ a b, v.hq = some a → v.wq = some b → a.block ≠ b.block)
    (hsH : v.hn ≤ 1000000) (hsW : v.wn ≤ 1000000) (B : Nat) (hB : w.cell? ⟨B, 0, none⟩ = some (.int .i64 x)) (hBn : B ≠ G ∧ ∀ a, v.hq = some a → B ≠ a.block) :
    Calls Tryz.prog 60 #[.pointer (some ⟨G, o, none⟩), .pointer (some ⟨B, 0, none⟩)] w (RlPost lo G n c i V v hs ws x w) := by
  have hc := Lib.hid (dropHold_any lo G n c i o ho V v hs x w hrow hv hownH hneH hsH)
  have hnext : Hid (∀ m w1, OwnS 43 w1 lo (.slice (some ⟨G, 0, none⟩) n c) (V.set i { v with hn := m }) → Fr (InQ G v.hq) w w1 → w1.cell? ⟨B, 0, none⟩ = some (.int .i64 x) ∧ Calls Tryz.prog 62 #[.pointer (some ⟨G, o, none⟩), .int .i64 x] w1 (fun e w' => ∃ m', e = .returned (.tuple #[]) ∧ OwnS 43 w' lo (.slice (some ⟨G, 0, none⟩) n c) (V.set i { v with hn := m, wn := m' }) ∧ OwnS 47 w' lo (.slice v.wq m' v.wc) (ws.filter (fun a => !(a.x == x))) ∧ Fr (InQ G v.wq) w1 w')) := by
    refine Lib.hid ?_
    intro m w1 hr hf
    have hnot : ¬ InQ G v.hq B := fun h => by
      rcases h with h | ⟨a, ha, h⟩
      · exact hBn.1 h
      · exact hBn.2 a ha h
    refine ⟨by rw [World.cell?_of_block (w := w) (hf.block _ (cell_in hB) hnot)]; exact hB, ?_⟩
    have hv1 : (V.set i { v with hn := m })[i]? = some { v with hn := m } := by rw [List.getElem?_set, if_pos rfl, if_pos (List.getElem?_eq_some_iff.1 hv).1]
    have hw1 : OwnS 47 w1 lo (.slice v.wq v.wn v.wc) ws := hownW.fr hf (fun a ha h => by
      rcases h with h | ⟨b, hb, h⟩
      · exact hneW a ha h
      · exact hap b a hb ha h.symm)
    refine (dropWait_any lo G n c i o ho (V.set i { v with hn := m }) { v with hn := m } ws x w1 hr hv1 hw1 hneW hsW).mono ?_
    rintro e w' ⟨m', rfl, h1, h2, h3⟩
    rw [List.set_set] at h1
    exact ⟨m', rfl, h1, h2, h3⟩
  have hapW := Lib.hid hap
  have hneH' := Lib.hid hneH
  clear hrow hv hownH hownW hneH hneW hap hsH hsW ho hBn
  go_enter Tryz.func60, Tryz.ntmps60
  go_wp2_with fail
  clear hB
  refine hc.out.mono ?_
  rintro e w1 ⟨m, rfl, h1, h2, h3⟩
  obtain ⟨hB1, hc2⟩ := hnext.out m w1 h1 h3
  have hc2' := Lib.hid hc2
  have h2' := Lib.hid h2
  have h3' := Lib.hid h3
  clear h1 h2 h3 hc2
  go_wp2_with fail
  clear hB1
  refine hc2'.out.mono ?_
  rintro e w2 ⟨m', rfl, h4, h5, h6⟩
  have h4' := Lib.hid h4
  have h5' := Lib.hid h5
  have h6' := Lib.hid h6
  clear h4 h5 h6
  go_wp2
  go_end0
  refine ⟨m, m', rfl, h4'.out, h2'.out.fr h6'.out (fun a ha h => ?_), h5'.out, (h3'.out.mono (fun k _ h => .inl h)).trans (h6'.out.mono (fun k _ h => .inr h))⟩
  rcases h with h | ⟨b, hb, h⟩
  · exact hneH'.out a ha h
  · exact hapW.out a b ha hb h
end Go.Proofs.YtbgpppbcffpdbaaGreatDoor
