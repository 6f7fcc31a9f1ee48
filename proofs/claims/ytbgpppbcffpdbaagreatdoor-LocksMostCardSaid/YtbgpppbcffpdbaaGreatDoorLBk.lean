/- Blockers of locks. -/
import Derived.Test.YtbgpppbcffpdbaaGreatDoorLWs
namespace Go.Proofs.YtbgpppbcffpdbaaGreatDoor
open Go.RowKit

/-- who blocks a waiter -/
def preB (d : QueD) (x : Int) : List Int := (d.hs.filter (fun h => hindB h (wtrOf d x))).map (·.x) ++ (d.ws.take (waitI d.ws x).toNat).map (·.x)
def blkOf (d : QueD) (x : Int) : List Int := Lib.compact ((preB d x).mergeSort fun x y => decide (x ≤ y))
def BlockR (L : List QueD) (x : Int) (l : List Int) : Prop := (¬ ChkOk L ∧ l = []) ∨ (ChkOk L ∧ wtOf L x = none ∧ l = []) ∨ (ChkOk L ∧ ∃ d, wtOf L x = some d ∧ l = blkOf d x)
def BkPost (l : List Int) (w : World) (e : Ending) (w' : World) : Prop := ∃ q n c, e = .returned (.slice q n c) ∧ OwnS 3 w' w.heap.size (.slice q n c) l ∧ Below w.heap.size w w'
theorem wtOf_mem : ∀ {L : List QueD} {x : Int} {d : QueD}, wtOf L x = some d → d ∈ L ∧ 0 ≤ waitI d.ws x
  | [], x, d, h => by simp [wtOf] at h
  | e :: L, x, d, h => by
    unfold wtOf at h
    split at h
    · cases h; exact ⟨List.mem_cons_self, by assumption⟩
    · have := wtOf_mem h; exact ⟨List.mem_cons_of_mem _ this.1, this.2⟩

set_option maxRecDepth 100000 in
set_option maxHeartbeats 2000000 in
theorem blockers_any (q : Option Addr) (n c : Nat) (V : List QV) (L : List QueD) (x : Int) (l : List Int) (he : BlockR L x l) (w : World) (hL : Lay w) (h : LkOn w q n c V L) (hsm : Sm L) (hn : n ≤ 1000000) :
    Calls Tryz.prog 21 #[.agg #[.slice q n c], .int .i64 x] w (BkPost l w) := by
  obtain ⟨W, hW⟩ : ∃ W, w.alloc (.cells #[.slice q n c] 24) = W := ⟨_, rfl⟩
  have hb0 := Lib.hid (one_box (xs := [.slice q n c]) hW)
  have hbW := Lib.hid hb0.out.1
  have hon := Lib.hid h
  have hh := Lib.hid (h.below hbW.out (Nat.le_refl _))
  have s1 := sizeLks (.slice q n c)
  have hLW : Hid (Lay W) := ⟨hL.goes hbW.out, hL.cov hbW.out⟩
  have hsm' := Lib.hid hsm
  have hn' := Lib.hid hn
  have hszW : Hid (w.heap.size ≤ W.heap.size) := hbW.out.size
  clear h hsm hL hn
  rcases he with ⟨h1, rfl⟩ | ⟨h1, hw0, rfl⟩ | ⟨h1, d0, hw0, rfl⟩
  · have hc := Lib.hid (check_any q n c V L 180 (.inr ⟨rfl, h1⟩) W hLW.out hh.out hsm'.out)
    clear h1
    go_enter Tryz.func21, Tryz.ntmps21
    go_wp2_with (first
      | (with_reducible refine wpList_load_at rfl 24 (.tmp 2) rfl Tryz.underlying24 rfl s1 rfl hb0.out.2.1.all ?_)
      | (go_at_call 17; refine hc.out.mono ?_; rintro e2 w2 ⟨rfl, hb2⟩; have hb3 := Lib.hid (below_step hb2 hbW.out); clear hb2 hW))
    go_ret
    exact ⟨none, 0, 0, rfl, OwnS.nil _ _ _, hb3.out⟩
  · have hc := Lib.hid (check_any q n c V L 0 (.inl ⟨rfl, h1⟩) W hLW.out hh.out hsm'.out)
    have hwt := Lib.hid (fun u (hu : Below w.heap.size w u) => waiting_any q n c V L x u (hon.out.below hu (Nat.le_refl _)) hsm'.out hn'.out h1.sorts)
    clear h1
    go_enter Tryz.func21, Tryz.ntmps21
    go_wp2_with (first
      | (with_reducible refine wpList_load_at rfl 24 (.tmp 2) rfl Tryz.underlying24 rfl s1 rfl hq2.out.all ?_)
      | (with_reducible refine wpList_load_at rfl 24 (.tmp 2) rfl Tryz.underlying24 rfl s1 rfl hb0.out.2.1.all ?_)
      | (go_at_call 17; refine hc.out.mono ?_; rintro e2 w2 ⟨rfl, hb2⟩; have hb3 := Lib.hid (below_step hb2 hbW.out); have hq2 := Lib.hid (hb0.out.2.1.below hb2 (Nat.le_refl _)); clear hb2 hW)
      | (go_at_call 45
         refine (hwt.out _ hb3.out).mono ?_
         rintro e7 w5 ⟨hb8, ⟨⟨va, vb, vc⟩, vq, vn, vm, uq, un, um⟩, p, b, rfl, hcase⟩
         obtain ⟨rfl, rfl⟩ : b = false ∧ p = 0 := by
           rcases hcase with ⟨h1, h2, _⟩ | ⟨_, i, d, hd, _, hp, h0, hno⟩
           · exact ⟨h1, h2⟩
           · rw [hp] at h0; rw [wtOf_some hd h0 hno] at hw0; cases hw0
         have hb9 := Lib.hid (below_step hb8 hb3.out)
         obtain ⟨w6, hw6⟩ : ∃ w6, w5.alloc (.cells #[.int .i64 va, .bool vb, .int .u16 vc, .slice vq vn vm, .slice uq un um] 43) = w6 := ⟨_, rfl⟩
         have hb7 := Lib.hid (one_box (xs := [.int .i64 va, .bool vb, .int .u16 vc, .slice vq vn vm, .slice uq un um]) hw6)
         have hb10 := Lib.hid (below_step hb7.out.1 hb9.out)
         clear hb8 hcase
         simp only [QV.val_eq]))
    go_ret
    exact ⟨none, 0, 0, rfl, OwnS.nil _ _ _, hb10.out⟩
  · have hc := Lib.hid (check_any q n c V L 0 (.inl ⟨rfl, h1⟩) W hLW.out hh.out hsm'.out)
    have hwt := Lib.hid (fun u (hu : Below w.heap.size w u) => waiting_any q n c V L x u (hon.out.below hu (Nat.le_refl _)) hsm'.out hn'.out h1.sorts)
    obtain ⟨hdm, hd0⟩ := wtOf_mem hw0
    have hds := Lib.hid (hsm'.out d0 hdm)
    clear h1 hdm
    go_enter Tryz.func21, Tryz.ntmps21
    go_wp2_with (first
      | (with_reducible refine wpList_load_at rfl 24 (.tmp 2) rfl Tryz.underlying24 rfl s1 rfl hq2.out.all ?_)
      | (with_reducible refine wpList_load_at rfl 24 (.tmp 2) rfl Tryz.underlying24 rfl s1 rfl hb0.out.2.1.all ?_)
      | (go_at_call 17; refine hc.out.mono ?_; rintro e2 w2 ⟨rfl, hb2⟩; have hb3 := Lib.hid hb2; have hq2 := Lib.hid (hb0.out.2.1.below hb2 (Nat.le_refl _)); clear hb2 hW))
    refine (hwt.out _ (below_step hb3.out hbW.out)).mono ?_
    rintro e7 w5 ⟨hb8, ⟨⟨va, vb, vc⟩, vq, vn, vm, uq, un, um⟩, p, b, rfl, hcase⟩
    obtain ⟨rfl, hv5, hp, h0⟩ : b = true ∧ QV.On w2 ⟨⟨va, vb, vc⟩, vq, vn, vm, uq, un, um⟩ d0 ∧ p = waitI d0.ws x ∧ 0 ≤ waitI d0.ws x := by
      rcases hcase with ⟨_, _, hno⟩ | ⟨h1, i, d, hd, hv, hp, h0, hno⟩
      · rw [wtOf_none hno] at hw0; cases hw0
      · rw [hp] at h0; rw [wtOf_some hd h0 hno] at hw0; cases hw0; exact ⟨h1, hv, hp, h0⟩
    have hb9 := Lib.hid (below_step hb8 hb3.out)
    obtain ⟨w6, hw6⟩ : ∃ w6, w5.alloc (.cells #[.int .i64 va, .bool vb, .int .u16 vc, .slice vq vn vm, .slice uq un um] 43) = w6 := ⟨_, rfl⟩
    have hb7 := Lib.hid (one_box (xs := [.int .i64 va, .bool vb, .int .u16 vc, .slice vq vn vm, .slice uq un um]) hw6)
    have hb10 := Lib.hid (below_step hb7.out.1 hb9.out)
    have hv6 := Lib.hid (hv5.below (below_step hb7.out.1 hb8) (Nat.le_refl _))
    obtain ⟨k, a, e1, e2, e3, e4, _, _⟩ := wtr_at h0
    have hpk : p = (k : Int) := by rw [hp]; exact e1
    subst hpk
    have hpre : Hid (preB d0 x = (d0.hs.filter (fun h => hindB h a)).map (·.x) ++ (d0.ws.take k).map (·.x)) := by
      show _ = _
      unfold preB
      rw [e4, e1, Int.toNat_natCast]
    have hkn : Hid (k < un) := by show _ < _; have h1 : d0.ws.length = un := hv6.out.ws.len; omega
    have hun : Hid (un ≤ 100000) := by show _ ≤ _; have h1 : d0.ws.length = un := hv6.out.ws.len; have h2 := hds.out.2; omega
    have hvn : Hid (vn ≤ 100000) := by show _ ≤ _; have h1 : d0.hs.length = vn := hv6.out.hs.len; have h2 := hds.out.1; omega
    have hak := Lib.hid e3
    have hhl : Hid (d0.hs.length = vn) := hv6.out.hs.len
    have hx4 := hb7.out.2.1.cell 4 rfl
    have hx3 := hb7.out.2.1.cell 3 rfl
    have hb6 := Lib.hid hb7.out.2.1
    have ho0 : Hid (OwnS 3 w6 w6.heap.size (.slice none 0 0) (((d0.hs.take 0).filter (fun h => hindB h a)).map (·.x))) := OwnS.nil _ _ _
    simp only [QV.val_eq]
    clear hb8 hcase hv5 hp h0 e1 e2 e3 e4 hd0 hc hwt
    go_wp2
    clear hw6 hx3 hx4
    go_loopw [8, 28] (fun v8 v28 wr => ∃ (j : Nat) (q0 : Option Addr) (n0 c0 : Nat), j ≤ vn ∧ v28 = .int .i64 j ∧ v8 = .slice q0 n0 c0 ∧ Hid (Below w6.heap.size w6 wr ∧ OwnS 3 wr w6.heap.size (.slice q0 n0 c0) (((d0.hs.take j).filter (fun h => hindB h a)).map (·.x)))) (fun _ v28 _ => vn - (intOf v28).toNat)
    case atStart => exact ⟨0, none, 0, 0, Nat.zero_le _, rfl, rfl, Below.refl _ _, ho0.out⟩
    case round =>
      obtain ⟨j, q0, n0, c0, hj, rfl, rfl, hr⟩ := hrel
      obtain ⟨wo, rfl⟩ : ∃ x, x = wr := ⟨_, rfl⟩
      have hn0 : Hid (n0 ≤ j) := by show _ ≤ _; have h1 := hr.out.2.len; rw [List.length_map] at h1; have h2 := List.length_filter_le (fun h => hindB h a) (d0.hs.take j); rw [List.length_take] at h2; omega
      by_cases hlt : j < vn
      · obtain ⟨A, ⟨hx, hm⟩, hqA, hhj, hcA0⟩ := (hv6.out.hs.below hr.out.1 (Nat.le_refl _)).at (i := j) (by show j < vn; exact hlt)
        replace hqA : vq = some A := hqA
        subst hqA
        obtain ⟨AW, a', hqW, ha', hcW0⟩ := (hv6.out.ws.below hr.out.1 (Nat.le_refl _)).at (i := k) (by show k < un; exact hkn.out)
        rw [hak.out] at ha'
        cases ha'
        replace hqW : uq = some AW := hqW
        subst hqW
        obtain ⟨ax, am, ah⟩ := a
        have hcell : Hid (∀ j' v, ([.int .i64 hx, .int .i64 hm] : List Value)[j']? = some v → wo.cell? ((A.add (j * 2)).add j') = some v) := hcA0
        have hs2 := sizeHold (.int .i64 hx) (.int .i64 hm)
        have hj' := Lib.hid hhj
        have i0 : (0 : Int) ≤ j := by omega
        have i1 : (j : Int) < vn := by omega
        have k0 : (0 : Int) ≤ k := by omega
        have k1 : (k : Int) < un := by have := hkn.out; omega
        have i2 : (j : Int) ≤ 100000 := by have := hvn.out; omega
        obtain ⟨WA, hWA⟩ : ∃ W', wo.alloc (.cells #[.int .i64 hx, .int .i64 hm] 45) = W' := ⟨_, rfl⟩
        have hbA := Lib.hid (one_box (xs := [.int .i64 hx, .int .i64 hm]) hWA)
        have hBA := Lib.hid (below_step hbA.out.1 hr.out.1)
        have hoA := Lib.hid (hr.out.2.below hbA.out.1)
        have d0' := hbA.out.2.1.cell 0 rfl
        have d1' := hbA.out.2.1.cell 1 rfl
        have q4 := (hb6.out.below hBA.out (Nat.le_refl _)).cell 4 rfl
        have p0 : WA.cell? (AW.add (k * 3)) = some (.int .i64 ax) := by have h := cell_kept hbA.out.1 (Nat.le_refl _) (hcW0 0 _ rfl); rwa [add0] at h
        have p1 : WA.cell? ⟨(AW.add (k * 3)).block, (AW.add (k * 3)).off + 1, none⟩ = some (.int .i64 am) := cell_kept hbA.out.1 (Nat.le_refl _) (hcW0 1 _ rfl)
        have p2 : WA.cell? ⟨(AW.add (k * 3)).block, (AW.add (k * 3)).off + 2, none⟩ = some (.int .i64 ah) := cell_kept hbA.out.1 (Nat.le_refl _) (hcW0 2 _ rfl)
        obtain ⟨hb, hhb⟩ : ∃ hb, hindB ⟨hx, hm⟩ ⟨ax, am, ah⟩ = hb := ⟨_, rfl⟩
        have hcall : Hid (∀ u, Below WA.heap.size WA u → Calls Tryz.prog 48 #[.agg #[.int .i64 hx, .int .i64 hm], .agg #[.int .i64 ax, .int .i64 am, .int .i64 ah]] u (fun e w' => e = .returned (.bool hb) ∧ Below u.heap.size u w')) := by
          rw [← hhb]
          exact fun u hu => hinders_any hx hm ax am ah u (hLW.out.goes (below_step hu (below_step hBA.out hb10.out)))
        have hstp : Hid (((d0.hs.take (j + 1)).filter (fun h => hindB h ⟨ax, am, ah⟩)).map (·.x) = ((d0.hs.take j).filter (fun h => hindB h ⟨ax, am, ah⟩)).map (·.x) ++ (if hb = true then [hx] else [])) := by
          show _ = _
          rw [List.take_add_one, hj'.out, List.filter_append, List.map_append]
          congr 1
          cases hb with
          | true => simp [hhb]
          | false => simp [hhb]
        clear hhb hhj
        go_wp2_with (first
          | (with_reducible refine wpList_load_at rfl 45 (.tmp 30) rfl Tryz.underlying45 rfl hs2 rfl hcell.out ?_))
        clear hWA hcell
        have hcW : Hid (∀ u, Below WA.heap.size WA u → ∀ j' v, ([.int .i64 ax, .int .i64 am, .int .i64 ah] : List Value)[j']? = some v → u.cell? ((AW.add (k * 3)).add j') = some v) := fun u hu j' v hj => cell_kept (below_step hu hbA.out.1) (Nat.le_refl _) (hcW0 j' v hj)
        have hx4 : Hid (∀ u, Below WA.heap.size WA u → u.cell? ⟨w5.heap.size, 4, none⟩ = some (.slice (some AW) un um)) := fun u hu => (hb6.out.below (below_step hu hBA.out) (Nat.le_refl _)).cell 4 rfl
        have hS0 : Below WA.heap.size WA WA.drew := below_drew' WA
        clear d0' d1' q4 p0 p1 p2
        refine wp_region_held (S := fun u => Below WA.heap.size WA u) (by kernel_rfl) ?_
        change wpAnyH _ _ _ _ _ _ _ _ (World.drew WA)
        refine held_take (i := 0) (dst := some 32) (v := .agg #[.int .i64 hx, .int .i64 hm]) rfl rfl (by kernel_rfl) (by kernel_rfl) (by kernel_rfl) (fun _ _ _ h => h) (y_load_agg 45 (.tmp 10) rfl rfl rfl (fun u hu => run_loadVar_at Tryz.underlying45 rfl (sizeHold _ _) _ ((hbA.out.2.1.below hu (Nat.le_refl _)).all))) hS0 ?_
        go_frame
        refine held_take (i := 1) (dst := some 33) (v := .pointer (some ⟨w5.heap.size, 4, none⟩)) rfl rfl (by kernel_rfl) (by kernel_rfl) (by kernel_rfl) (fun _ _ _ h => h) (.inl ⟨rfl, fun u hu => by go_simp⟩) hS0 ?_
        go_frame
        refine held_take (i := 2) (dst := some 34) (v := .slice (some AW) un um) rfl rfl (by kernel_rfl) (by kernel_rfl) (by kernel_rfl) (fun _ _ _ h => h) (.inl ⟨rfl, fun u hu => by have c4 := hx4.out u hu; go_simp⟩) hS0 ?_
        go_frame
        refine held_take (i := 3) (dst := some 35) (v := .int .i64 k) rfl rfl (by kernel_rfl) (by kernel_rfl) (by kernel_rfl) (fun _ _ _ h => h) (y_move (.tmp 6) rfl rfl rfl) hS0 ?_
        go_frame
        refine held_take (i := 4) (dst := some 36) (v := .pointer (some (AW.add (k * 3)))) rfl rfl (by kernel_rfl) (by kernel_rfl) (by kernel_rfl) (fun _ _ _ h => h) (.inl ⟨rfl, fun u hu => by go_simp⟩) hS0 ?_
        go_frame
        refine held_take (i := 5) (dst := some 37) (v := .agg #[.int .i64 ax, .int .i64 am, .int .i64 ah]) rfl rfl (by kernel_rfl) (by kernel_rfl) (by kernel_rfl) (fun _ _ _ h => h) (y_load_agg 47 (.tmp 36) rfl rfl rfl (fun u hu => run_loadVar_at Tryz.underlying47 rfl (sizeWait _ _ _) _ (hcW.out u hu))) hS0 ?_
        go_frame
        refine held_call (i := 6) (dst := some 38) rfl rfl (by kernel_rfl) rfl (by go_simp) (hcall.out _ hS0) ?_
        rintro e u3 ⟨rfl, hbu⟩
        have hS3' : Below WA.heap.size WA u3 := below_step hbu hS0
        refine ⟨_, rfl, hS3', ?_⟩
        go_frame
        refine wpAnyH_done (by kernel_rfl) ?_ _
        have hS3 := Lib.hid hS3'
        clear hS3' hS0 hbu
        have hB3 := Lib.hid (below_step hS3.out hBA.out)
        have ho3 := Lib.hid (hoA.out.below hS3.out)
        have hb3' := Lib.hid (hbA.out.2.1.below hS3.out (Nat.le_refl _))
        cases hb with
        | true =>
          have e0 := hb3'.out.cell 0 rfl
          obtain ⟨W6, hW6⟩ : ∃ W', u3.alloc (.cells #[.int .i64 hx] 3) = W' := ⟨_, rfl⟩
          have hb6' := Lib.hid (one_box (xs := [.int .i64 hx]) hW6)
          have hrow : Hid (SlOn W6 (some ⟨u3.heap.size, 0, none⟩) 1 1 [hx]) := by
            have h0 := RowV.made (T := 3) u3 [.int .i64 hx]
            rw [hW6] at h0
            exact (OwnS.single (r := hx) h0).reads
          have hB6 := Lib.hid (below_step hb6'.out.1 hB3.out)
          have ho6 := Lib.hid (ho3.out.below hb6'.out.1)
          have h40 : Hid ((n0 + 1) * 8 ≤ 140737488355328) := by have := hn0.out; have := hvn.out; show _ ≤ _; omega
          have h41 : Hid (n0 + 1 ≤ 140737488355328) := by have := hn0.out; have := hvn.out; show _ ≤ _; omega
          have hsz := Lib.hid hB6.out.size
          go_wp2_with (first
            | (at_builtin
               refine wpList_append_l Tryz.underlying33 infoInt rfl rfl (.tmp 39) (.tmp 42) rfl rfl rfl ho6.out hrow.out h40.out h41.out hsz.out ?_
               intro q' c' w' h1 h2 h3
               have hh1 := Lib.hid h1
               have hh2 : Hid (Below w6.heap.size w6 w') := hB6.out.trans (grown_belowN h2 hB6.out.size (fun a ha => by
                 cases q0 with
                 | none => cases ha
                 | some a0 => cases ha; exact (ho6.out.far a0 rfl).1))
               clear h1 h2 h3))
          go_roundw
          case rel => exact ⟨j + 1, q', n0 + 1, c', by omega, by go_num, rfl, hh2.out, by rw [hstp.out]; exact hh1.out⟩
          case measure => simp [intOf]; omega
        | false =>
          go_wp2
          go_roundw
          case rel => exact ⟨j + 1, q0, n0, c0, by omega, by go_num, rfl, hB3.out, by rw [hstp.out, if_neg (by decide), List.append_nil]; exact ho3.out⟩
          case measure => simp [intOf]; omega
      · obtain rfl : vn = j := by omega
        have hst1 : Hid (OwnS 3 wo w6.heap.size (.slice q0 n0 c0) ((d0.hs.filter (fun h => hindB h a)).map (·.x) ++ (d0.ws.take 0).map (·.x))) := by
          have h1 := hr.out.2
          rw [List.take_of_length_le (by rw [hhl.out]; exact Nat.le_refl _)] at h1
          show OwnS _ _ _ _ _
          simpa using h1
        have hBo := Lib.hid hr.out.1
        have q4 := (hb6.out.below hBo.out (Nat.le_refl _)).cell 4 rfl
        have k0 : (0 : Int) ≤ k := by omega
        have k2 : (k : Int) ≤ um := by have h1 : un ≤ um := hv6.out.ws.le; have := hkn.out; omega
        have hwf : Hid (SlOn w6 uq k um (d0.ws.take k)) := hv6.out.ws.front (by have := hkn.out; show k ≤ un; omega)
        have hk3 : Hid (k ≤ 100000) := by have := hkn.out; have := hun.out; show _ ≤ _; omega
        have k3 := hk3.out
        clear hr
        go_wp2
        clear q4
        go_loopw [8, 50] (fun v8 v50 wr => ∃ (j : Nat) (q1 : Option Addr) (n1 c1 : Nat), j ≤ k ∧ v50 = .int .i64 j ∧ v8 = .slice q1 n1 c1 ∧ Hid (Below w6.heap.size w6 wr ∧ OwnS 3 wr w6.heap.size (.slice q1 n1 c1) ((d0.hs.filter (fun h => hindB h a)).map (·.x) ++ (d0.ws.take j).map (·.x)))) (fun _ v50 _ => k - (intOf v50).toNat)
        case atStart => exact ⟨0, q0, n0, c0, Nat.zero_le _, rfl, rfl, hBo.out, hst1.out⟩
        case round =>
          obtain ⟨j, q1, n1, c1, hj, rfl, rfl, hr2⟩ := hrel
          obtain ⟨wp, rfl⟩ : ∃ x, x = wr := ⟨_, rfl⟩
          have hn1 : Hid (n1 ≤ 200000) := by
            have h1 := hr2.out.2.len
            rw [List.length_append, List.length_map, List.length_map, List.length_take] at h1
            have h2 := List.length_filter_le (fun h => hindB h a) d0.hs
            have h3 := hhl.out; have h4 := hvn.out
            show _ ≤ _; omega
          by_cases hjk : j < k
          · obtain ⟨A2, ⟨bx, bm, bh⟩, hqA2, hm2, hcm⟩ := (hwf.out.below hr2.out.1 (Nat.le_refl _)).at hjk
            subst hqA2
            have hcell2 : Hid (∀ j' v, ([.int .i64 bx, .int .i64 bm, .int .i64 bh] : List Value)[j']? = some v → wp.cell? ((A2.add (j * 3)).add j') = some v) := hcm
            have hs3 := sizeWait (.int .i64 bx) (.int .i64 bm) (.int .i64 bh)
            have j0 : (0 : Int) ≤ j := by omega
            have j1 : (j : Int) < k := by omega
            have hstp2 : Hid ((d0.hs.filter (fun h => hindB h a)).map (·.x) ++ (d0.ws.take (j + 1)).map (·.x) = ((d0.hs.filter (fun h => hindB h a)).map (·.x) ++ (d0.ws.take j).map (·.x)) ++ [bx]) := by
              show _ = _
              rw [List.getElem?_take, if_pos hjk] at hm2
              rw [List.take_add_one, hm2, List.map_append, List.append_assoc]; rfl
            clear hm2 hcm
            obtain ⟨W1, hW1⟩ : ∃ W', wp.alloc (.cells #[.int .i64 bx, .int .i64 bm, .int .i64 bh] 47) = W' := ⟨_, rfl⟩
            have hb1 := Lib.hid (one_box (xs := [.int .i64 bx, .int .i64 bm, .int .i64 bh]) hW1)
            obtain ⟨W6, hW6⟩ : ∃ W', W1.alloc (.cells #[.int .i64 bx] 3) = W' := ⟨_, rfl⟩
            have hb6' := Lib.hid (one_box (xs := [.int .i64 bx]) hW6)
            have hrow : Hid (SlOn W6 (some ⟨W1.heap.size, 0, none⟩) 1 1 [bx]) := by
              have h0 := RowV.made (T := 3) W1 [.int .i64 bx]
              rw [hW6] at h0
              exact (OwnS.single (r := bx) h0).reads
            have e0 := hb1.out.2.1.cell 0 rfl
            have hB6 := Lib.hid (below_step hb6'.out.1 (below_step hb1.out.1 hr2.out.1))
            have ho6 := Lib.hid ((hr2.out.2.below hb1.out.1).below hb6'.out.1)
            have h40 : Hid ((n1 + 1) * 8 ≤ 140737488355328) := by have := hn1.out; show _ ≤ _; omega
            have h41 : Hid (n1 + 1 ≤ 140737488355328) := by have := hn1.out; show _ ≤ _; omega
            have hsz := Lib.hid hB6.out.size
            go_wp2_with (first
              | (with_reducible refine wpList_load_at rfl 47 (.tmp 52) rfl Tryz.underlying47 rfl hs3 rfl hcell2.out ?_)
              | (at_builtin
                 refine wpList_append_l Tryz.underlying33 infoInt rfl rfl (.tmp 54) (.tmp 57) rfl rfl rfl ho6.out hrow.out h40.out h41.out hsz.out ?_
                 intro q' c' w' h1 h2 h3
                 rw [← hstp2.out] at h1
                 have hh1 := Lib.hid h1
                 have hh2 : Hid (Below w6.heap.size w6 w') := hB6.out.trans (grown_belowN h2 hB6.out.size (fun a ha => by
                   cases q1 with
                   | none => cases ha
                   | some a0 => cases ha; exact (ho6.out.far a0 rfl).1))
                 clear h1 h2 h3))
            go_roundw
            case rel => exact ⟨j + 1, q', n1 + 1, c', by omega, by go_num, rfl, hh2.out, hh1.out⟩
            case measure => simp [intOf]; omega
          · obtain rfl : k = j := by omega
            have hall : Hid (OwnS 3 wp w6.heap.size (.slice q1 n1 c1) (preB d0 x)) := by
              show OwnS _ _ _ _ _
              rw [hpre.out]; exact hr2.out.2
            have hBp := Lib.hid hr2.out.1
            have hso := Lib.hid (sortI_any q1 n1 c1 w6.heap.size 3 (preB d0 x) wp hall.out (by have := hn1.out; omega))
            clear hr2
            go_wp2_with fail
            refine hso.out.mono ?_
            rintro e w7 ⟨rfl, h1, h2⟩
            have hs1' := Lib.hid h1
            have hB7 : Hid (Below w6.heap.size w6 w7) := hBp.out.trans (grown_belowN h2 hBp.out.size (fun a ha => by
              cases q1 with
              | none => cases ha
              | some a0 => cases ha; exact (hall.out.far a0 rfl).1))
            have hco := Lib.hid (compactI_any q1 n1 c1 w6.heap.size 3 _ w7 h1 (by have := hn1.out; omega))
            clear h1 h2 hso
            go_wp2_with fail
            refine hco.out.mono ?_
            rintro e w8 ⟨rfl, h1, h2⟩
            have hB8 : Hid (Below w6.heap.size w6 w8) := hB7.out.trans (grown_belowN h2 hB7.out.size (fun a ha => by
              cases q1 with
              | none => cases ha
              | some a0 => cases ha; exact (hs1'.out.far a0 rfl).1))
            have hfin : Hid (BkPost (blkOf d0 x) w (.returned (.slice q1 (Lib.compact ((preB d0 x).mergeSort fun x y => decide (x ≤ y))).length c1)) w8) := by
              refine ⟨_, _, _, rfl, h1.mono ?_, below_step (below_step hB8.out hb10.out) hbW.out⟩
              have h3 := hb10.out.size
              have h4 := hszW.out
              omega
            clear h1 h2 hco
            go_wp2
            go_ret
            exact hfin.out
end Go.Proofs.YtbgpppbcffpdbaaGreatDoor
