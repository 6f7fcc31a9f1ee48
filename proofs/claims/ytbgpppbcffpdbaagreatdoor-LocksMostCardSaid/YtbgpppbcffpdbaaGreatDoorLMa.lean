/- mayAsk of locks. -/
import Derived.Test.YtbgpppbcffpdbaaGreatDoorLMc
namespace Go.Proofs.YtbgpppbcffpdbaaGreatDoor
open Go.RowKit

/-- how a question is refused -/
def AskE (L : List QueD) (x : Int) (r : ResD) (m e : Int) : Prop := (CallE L x e ∧ e ≠ 0) ∨ (CallE L x 0 ∧ ((resB r = false ∧ e = 2) ∨ (resB r = true ∧ modB r.k m = false ∧ e = 2) ∨ (resB r = true ∧ modB r.k m = true ∧ ((¬ NoW L x L.length ∧ e = 181) ∨ (NoW L x L.length ∧ e = 0)))))

set_option maxRecDepth 100000 in
set_option maxHeartbeats 2000000 in
theorem mayAsk_any (q : Option Addr) (n c : Nat) (V : List QV) (L : List QueD) (x : Int) (t : Int) (k : Bool) (id m e : Int) (he : AskE L x ⟨t, k, id⟩ m e) (w : World) (hL : Lay w) (h : LkOn w q n c V L) (hsm : Sm L) (hn : n ≤ 1000000) :
    Calls Tryz.prog 63 #[.agg #[.slice q n c], .int .i64 x, .agg #[.int .i64 t, .bool k, .int .u16 id], .int .i64 m] w (fun e' w' => e' = .returned (.int .i64 e) ∧ Below w.heap.size w w') := by
  obtain ⟨W, hW⟩ : ∃ W, (w.alloc (.cells #[.slice q n c] 24)).alloc (.cells #[.int .i64 t, .bool k, .int .u16 id] 30) = W := ⟨_, rfl⟩
  have hbx := Lib.hid (two_boxes (xs := [.slice q n c]) (ys := [.int .i64 t, .bool k, .int .u16 id]) hW)
  have hon := Lib.hid h
  have hh := Lib.hid (h.below hbx.out.1 (Nat.le_refl _))
  have s1 := sizeLks (.slice q n c)
  have s3 := sizeRes (.int .i64 t) (.bool k) (.int .u16 id)
  have hLW : Hid (Lay W) := ⟨hL.goes hbx.out.1, hL.cov hbx.out.1⟩
  have hsm' := Lib.hid hsm
  have hn' := Lib.hid hn
  clear h hsm hL hn
  rcases he with ⟨h1, h2⟩ | ⟨h1, h2⟩
  · have hc := Lib.hid (mayCall_any q n c V L x e h1 W hLW.out hh.out hsm'.out)
    have h2' : (e == 0) = false := by simpa using h2
    clear h1
    go_enter Tryz.func63, Tryz.ntmps63
    go_wp2_with (first
      | (with_reducible refine wpList_load_at rfl 24 (.tmp 4) rfl Tryz.underlying24 rfl s1 rfl hbx.out.2.1.all ?_)
      | (go_at_call 58; refine hc.out.mono ?_; rintro e5 w2 ⟨rfl, hb2⟩; have hb3 := Lib.hid (below_step hb2 hbx.out.1); clear hb2 hW))
    go_ret
    exact ⟨rfl, hb3.out⟩
  · have hc := Lib.hid (mayCall_any q n c V L x 0 h1 W hLW.out hh.out hsm'.out)
    have hck : ChkOk L := by
      rcases h1 with ⟨_, h⟩ | ⟨_, _, h⟩ | ⟨h1, _, _⟩
      · cases h
      · cases h
      · exact h1
    have hsH' : Hid (∀ d ∈ L, SortH d.hs) := fun d hd => (hck.fit d hd).hs.sort
    clear h1 hck
    obtain ⟨rb, hrb⟩ : ∃ rb, resB ⟨t, k, id⟩ = rb := ⟨_, rfl⟩
    obtain ⟨mb, hmb⟩ : ∃ mb, modB k m = mb := ⟨_, rfl⟩
    have hr := Lib.hid (fun u => isRes_any t k id u rb hrb)
    have hm := Lib.hid (fun u => isModeOf_any t k id m u mb hmb)
    have hwt := Lib.hid (fun u (hu : Below w.heap.size w u) => waiting_any q n c V L x u (hon.out.below hu (Nat.le_refl _)) hsm'.out hn'.out hsH'.out)
    rw [hrb, show (⟨t, k, id⟩ : ResD).k = k from rfl, hmb] at h2
    clear hrb hmb
    cases rb with
    | false =>
      obtain rfl : e = 2 := by
        rcases h2 with ⟨_, h⟩ | ⟨h, _⟩ | ⟨h, _⟩
        · exact h
        · cases h
        · cases h
      clear h2
      go_enter Tryz.func63, Tryz.ntmps63
      go_wp2_with (first
        | (with_reducible refine wpList_load_at rfl 24 (.tmp 4) rfl Tryz.underlying24 rfl s1 rfl hbx.out.2.1.all ?_)
        | (with_reducible refine wpList_load_at rfl 30 (.tmp 6) rfl Tryz.underlying30 rfl s3 rfl hbr.out.all ?_)
        | (go_at_call 58; refine hc.out.mono ?_; rintro e5 w2 ⟨rfl, hb2⟩; have hbr := Lib.hid (hbx.out.2.2.1.below hb2 (Nat.le_refl _)); have hb3 := Lib.hid (below_step hb2 hbx.out.1); clear hb2 hW)
        | (go_at_call 83; refine (hr.out _).mono ?_; rintro e5 w3 ⟨rfl, hb4⟩; have hb5 := Lib.hid (below_step hb4 hb3.out); clear hb4))
      go_ret
      exact ⟨rfl, hb5.out⟩
    | true =>
      cases mb with
      | false =>
        obtain rfl : e = 2 := by
          rcases h2 with ⟨h, _⟩ | ⟨_, _, h⟩ | ⟨_, h, _⟩
          · cases h
          · exact h
          · cases h
        clear h2
        go_enter Tryz.func63, Tryz.ntmps63
        go_wp2_with (first
          | (with_reducible refine wpList_load_at rfl 24 (.tmp 4) rfl Tryz.underlying24 rfl s1 rfl hbq.out.all ?_)
          | (with_reducible refine wpList_load_at rfl 24 (.tmp 4) rfl Tryz.underlying24 rfl s1 rfl hbx.out.2.1.all ?_)
          | (with_reducible refine wpList_load_at rfl 30 (.tmp 6) rfl Tryz.underlying30 rfl s3 rfl hbr.out.all ?_)
          | (go_at_call 58; refine hc.out.mono ?_; rintro e5 w2 ⟨rfl, hb2⟩; have hbr := Lib.hid (hbx.out.2.2.1.below hb2 (Nat.le_refl _)); have hbl := Lib.hid (hbx.out.2.1.below hb2 (Nat.le_refl _)); have hb3 := Lib.hid (below_step hb2 hbx.out.1); clear hb2 hW)
          | (go_at_call 83; refine (hr.out _).mono ?_; rintro e5 w3 ⟨rfl, hb4⟩; have hb5 := Lib.hid (below_step hb4 hb3.out); have hbr3 := Lib.hid (hbr.out.below hb4 (Nat.le_refl _)); have hbl3 := Lib.hid (hbl.out.below hb4 (Nat.le_refl _)); have d0 := hbr3.out.cell 0 rfl; have d1 := hbr3.out.cell 1 rfl; have d2 := hbr3.out.cell 2 rfl; clear hb4)
          | (go_at_call 106; refine (hm.out _).mono ?_; rintro e5 w4 ⟨rfl, hb6⟩; have hb7 := Lib.hid (below_step hb6 hb5.out); have hbq := Lib.hid (hbl3.out.below hb6 (Nat.le_refl _)); clear hb6 d0 d1 d2))
        go_ret
        exact ⟨rfl, hb7.out⟩
      | true =>
        have h3 : (¬ NoW L x L.length ∧ e = 181) ∨ (NoW L x L.length ∧ e = 0) := by
          rcases h2 with ⟨h, _⟩ | ⟨_, h, _⟩ | ⟨_, _, h⟩
          · cases h
          · cases h
          · exact h
        clear h2
        rcases h3 with ⟨h3, rfl⟩ | ⟨h3, rfl⟩
        · go_enter Tryz.func63, Tryz.ntmps63
          go_wp2_with (first
            | (with_reducible refine wpList_load_at rfl 24 (.tmp 4) rfl Tryz.underlying24 rfl s1 rfl hbq.out.all ?_)
            | (with_reducible refine wpList_load_at rfl 24 (.tmp 4) rfl Tryz.underlying24 rfl s1 rfl hbx.out.2.1.all ?_)
            | (with_reducible refine wpList_load_at rfl 30 (.tmp 6) rfl Tryz.underlying30 rfl s3 rfl hbr.out.all ?_)
            | (go_at_call 58; refine hc.out.mono ?_; rintro e5 w2 ⟨rfl, hb2⟩; have hbr := Lib.hid (hbx.out.2.2.1.below hb2 (Nat.le_refl _)); have hbl := Lib.hid (hbx.out.2.1.below hb2 (Nat.le_refl _)); have hb3 := Lib.hid (below_step hb2 hbx.out.1); clear hb2 hW)
            | (go_at_call 83; refine (hr.out _).mono ?_; rintro e5 w3 ⟨rfl, hb4⟩; have hb5 := Lib.hid (below_step hb4 hb3.out); have hbr3 := Lib.hid (hbr.out.below hb4 (Nat.le_refl _)); have hbl3 := Lib.hid (hbl.out.below hb4 (Nat.le_refl _)); have d0 := hbr3.out.cell 0 rfl; have d1 := hbr3.out.cell 1 rfl; have d2 := hbr3.out.cell 2 rfl; clear hb4)
            | (go_at_call 106; refine (hm.out _).mono ?_; rintro e5 w4 ⟨rfl, hb6⟩; have hb7 := Lib.hid (below_step hb6 hb5.out); have hbq := Lib.hid (hbl3.out.below hb6 (Nat.le_refl _)); clear hb6 d0 d1 d2)
            | (go_at_call 45
               refine (hwt.out _ hb7.out).mono ?_
               rintro e7 w5 ⟨hb8, ⟨⟨va, vb, vc⟩, vq, vn, vm, uq, un, um⟩, p, b, rfl, hcase⟩
               obtain rfl : b = true := by
                 rcases hcase with ⟨_, _, h⟩ | ⟨h, _⟩
                 · exact absurd h h3
                 · exact h
               have hb9 := Lib.hid (below_step hb8 hb7.out)
               clear hb8 hcase
               simp only [QV.val_eq]))
          go_ret
          exact ⟨rfl, by first | exact hb9.out | exact below_step (by go_grown) hb9.out⟩
        · go_enter Tryz.func63, Tryz.ntmps63
          go_wp2_with (first
            | (with_reducible refine wpList_load_at rfl 24 (.tmp 4) rfl Tryz.underlying24 rfl s1 rfl hbq.out.all ?_)
            | (with_reducible refine wpList_load_at rfl 24 (.tmp 4) rfl Tryz.underlying24 rfl s1 rfl hbx.out.2.1.all ?_)
            | (with_reducible refine wpList_load_at rfl 30 (.tmp 6) rfl Tryz.underlying30 rfl s3 rfl hbr.out.all ?_)
            | (go_at_call 58; refine hc.out.mono ?_; rintro e5 w2 ⟨rfl, hb2⟩; have hbr := Lib.hid (hbx.out.2.2.1.below hb2 (Nat.le_refl _)); have hbl := Lib.hid (hbx.out.2.1.below hb2 (Nat.le_refl _)); have hb3 := Lib.hid (below_step hb2 hbx.out.1); clear hb2 hW)
            | (go_at_call 83; refine (hr.out _).mono ?_; rintro e5 w3 ⟨rfl, hb4⟩; have hb5 := Lib.hid (below_step hb4 hb3.out); have hbr3 := Lib.hid (hbr.out.below hb4 (Nat.le_refl _)); have hbl3 := Lib.hid (hbl.out.below hb4 (Nat.le_refl _)); have d0 := hbr3.out.cell 0 rfl; have d1 := hbr3.out.cell 1 rfl; have d2 := hbr3.out.cell 2 rfl; clear hb4)
            | (go_at_call 106; refine (hm.out _).mono ?_; rintro e5 w4 ⟨rfl, hb6⟩; have hb7 := Lib.hid (below_step hb6 hb5.out); have hbq := Lib.hid (hbl3.out.below hb6 (Nat.le_refl _)); clear hb6 d0 d1 d2)
            | (go_at_call 45
               refine (hwt.out _ hb7.out).mono ?_
               rintro e7 w5 ⟨hb8, ⟨⟨va, vb, vc⟩, vq, vn, vm, uq, un, um⟩, p, b, rfl, hcase⟩
               obtain rfl : b = false := by
                 rcases hcase with ⟨h, _⟩ | ⟨_, i, d, hd, _, hp, h0, _⟩
                 · exact h
                 · exact absurd (h3 i d (List.getElem?_eq_some_iff.1 hd).1 hd) (by omega)
               have hb9 := Lib.hid (below_step hb8 hb7.out)
               clear hb8 hcase
               simp only [QV.val_eq]))
          go_ret
          exact ⟨rfl, by first | exact hb9.out | exact below_step (by go_grown) hb9.out⟩
end Go.Proofs.YtbgpppbcffpdbaaGreatDoor
