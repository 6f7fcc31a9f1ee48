/- What laidNext tells: the sectors of an entry, each with its piece. -/
import Derived.Test.YtjhnagipagkhiaaGreatRTl
namespace Go.Proofs.YtjhnagipagkhiaaGreat
open Go.RowKit Go.Maps Go.Sort Go.Shelf
attribute [local go_sem] Oper.semAt_some

theorem map_split {α : Type} (f : Nat → α) {n i : Nat} (h : i < n) : (List.range n).map f = ((List.range n).map f).take i ++ f i :: ((List.range n).map f).drop (i + 1) := by
  have hl : i < ((List.range n).map f).length := by simpa using h
  have e : ((List.range n).map f)[i] = f i := by simp
  rw [← e, ← List.drop_eq_getElem_cons hl, List.take_append_drop]
theorem map_next {α : Type} (f : Nat → α) {n i : Nat} (h : i < n) : ((List.range n).map f).take (i + 1) = ((List.range n).map f).take i ++ [f i] := by
  rw [List.take_add_one]
  simp [h]

def cutq (q : Option Addr) (c l : Nat) : Option Addr := if c = l then q else q.map (·.add l)
theorem run_cut (W : World) (q : Option Addr) (n c l h : Nat) (h1 : l ≤ h) (h2 : h ≤ c) :
    (Instr.slice 30 (.slice q n c) (some (.int .i64 (l : Nat))) (some (.int .i64 (h : Nat))) none).run Tryz.prog W = .ok (.slice (cutq q c l) (h - l) (c - l)) W := by
  have hz : ∀ u, (sizeOf (Tryz.prog.elem 30)).run Tryz.prog u = .ok 1 u := fun u => by kernel_rfl
  have ht : Tryz.prog.underlying 30 = some (.slice (Tryz.prog.elem 30)) := by kernel_rfl
  rw [run_slice_lh W _ _ _ _ ht .i64 .i64 _ _ (by omega) (by omega) (by omega), hz]
  simp [Result.andThen, sliced, cutq]
theorem holds_cut {W : World} {q : Option Addr} {n c l h : Nat} {b : List UInt8} (hv : Lib.HoldsBytes W (.slice q n c) b) (hn : n = b.length) (h1 : l ≤ h) (h2 : h ≤ n) (hnc : n ≤ c) : Lib.HoldsBytes W (.slice (cutq q c l) (h - l) (c - l)) ((b.drop l).take (h - l)) := by
  obtain ⟨p, cap, he, h3, h4⟩ := hv
  cases he
  refine ⟨cutq q c l, c - l, by rw [List.length_take, List.length_drop]; congr 1; omega, fun hp => ?_, fun a ha i x hx => ?_⟩
  · have : q = none := by
      unfold cutq at hp
      split at hp
      · exact hp
      · cases q with
        | none => rfl
        | some a => cases hp
    rw [h3 this]; simp
  · rw [List.getElem?_take] at hx
    split at hx
    · rw [List.getElem?_drop] at hx
      unfold cutq at ha
      split at ha
      · rename_i hcl
        rename_i hil
        exact absurd hil (by omega)
      · cases q with
        | none => cases ha
        | some b0 =>
          cases ha
          rw [Addr.add_add]
          exact h4 b0 rfl (l + i) x hx
    · cases hx

def nxtP (len k : Nat) (entry : List UInt8) : List UInt8 := (entry.drop (52 * k)).take (min (52 * k + 52) len - 52 * k)
def nxtE (turn number size place used : Nat) (entry : List UInt8) (k : Nat) : Int × List Int := ((2 + wrapAt size place (used + k) : Nat), pad (markB turn number entry.length k (nxtP entry.length k entry)))
def nxtL (turn number size place used : Nat) (entry : List UInt8) : List (Int × List Int) := (List.range (secs entry.length)).map (nxtE turn number size place used entry)

/-- what laidNext's function reads -/
structure NxR (mB rB eB rg : Nat) (mk : List Value) (en : Value) (entry : List UInt8) (cells : List Value) (W : World) : Prop where
  m : RowV 129 W mB mk
  r : RowV 39 W rB [.pointer (some ⟨rg, 0, none⟩)]
  e : RowV 30 W eB [en]
  v : Lib.HoldsBytes W en entry
  g : RowV 96 W rg cells

theorem size_mark (turn number length : Nat) : (Tryz.prog.info? 129).map (·.size) = some (mkL turn number length).length := by
  show _ = some [Value.int .u32 turn, .int .u64 number, .int .i64 length].length
  kernel_rfl
theorem load_mark {W : World} {g : Nat} {turn number length : Nat} (h : RowV 129 W g (mkL turn number length)) : (loadVar 129 ⟨g, 0, none⟩).run Tryz.prog W = .ok (.agg (mkL turn number length).toArray) W :=
  run_loadVar_at Tryz.underlying129 rfl (size_mark turn number length) ⟨g, 0, none⟩ (h.part (o := 0) (pre := []) (rest := []) (by simp) rfl)
theorem load_ring_head {W : World} {g : Nat} {turn size first place nl nc : Nat} {nq : Option Addr} {rest : List Value} (h : RowV 96 W g (hdL turn size first place nq nl nc ++ rest)) : (loadVar 94 ⟨g, 0, none⟩).run Tryz.prog W = .ok (.agg (hdL turn size first place nq nl nc).toArray) W :=
  run_loadVar_at Tryz.underlying94 rfl (size_head turn size first place nl nc nq) ⟨g, 0, none⟩ (h.part (o := 0) (pre := []) (rest := rest) (by simp) rfl)

theorem NxR.below {mB rB eB rg : Nat} {mk cells : List Value} {en : Value} {entry : List UInt8} {W W' : World} (h : NxR mB rB eB rg mk en entry cells W) (hb : RowKit.Below W.heap.size W W') : NxR mB rB eB rg mk en entry cells W' :=
  ⟨h.m.below hb, h.r.below hb, h.e.below hb, holds_below h.v hb (Nat.le_refl _), h.g.below hb⟩
theorem NxR.drew {mB rB eB rg : Nat} {mk cells : List Value} {en : Value} {entry : List UInt8} {W : World} (h : NxR mB rB eB rg mk en entry cells W) : NxR mB rB eB rg mk en entry cells W.drew := h.below ((RowKit.Below.refl _ _).drew)

theorem y_slice {ops : Array Oper} {S : World → Prop} {a : Act} {o : Oper} (x lo hi : Operand) (ho : o.op = .slice 30 x (some lo) (some hi) none) (hw : Region.wanted o (yielded ops a.tmps) = true) {q : Option Addr} {n c l h : Nat}
    (hx : a.eval x = .slice q n c) (hlo : a.eval lo = .int .i64 (l : Nat)) (hhi : a.eval hi = .int .i64 (h : Nat)) (h1 : l ≤ h) (h2 : h ≤ c) : YieldsIf Tryz.prog ops S o (.slice (cutq q c l) (h - l) (c - l)) a := by
  refine .inl ⟨hw, fun W _ => ?_⟩
  have ht : Tryz.prog.underlying 30 = some (.slice (Tryz.prog.elem 30)) := by kernel_rfl
  unfold execOp
  simp only [ho, hx, hlo, hhi, Option.map_some, Option.map_none, run_sliceAt_slice (h := ht), Sem.run_bind, run_cut W q n c l h h1 h2, Result.andThen_ok, Sem.run_pure]

set_option maxRecDepth 100000 in
set_option maxHeartbeats 4000000 in
theorem next_tells (mB rB eB rg turn number turn2 size first place nl nc used : Nat) (nq eq : Option Addr) (ec : Nat) (rd re rb : Value) (entry : List UInt8) (hn : entry.length ≤ 8000) (hec : entry.length ≤ ec) (ht : turn < 4294967296) (hp : place < 100000) (hs : size < 100000) (hu : used < 10000) (w : World) :
    Tells Tryz.prog 85 #[] #[.pointer (some ⟨mB, 0, none⟩), .pointer (some ⟨rB, 0, none⟩), .pointer (some ⟨eB, 0, none⟩)]
      (NxR mB rB eB rg (mkL turn number entry.length) (.slice eq entry.length ec) entry (hdL turn2 size first place nq nl nc ++ [rd, re, .int .i64 used, rb])) ((nxtL turn number size place used entry).map tl) w := by
  intro l J Jx hJ hJx hR hRx h0 hY
  obtain ⟨len, hlen⟩ : ∃ len, entry.length = len := ⟨_, rfl⟩
  have r0 := Lib.hid (hR [] _ h0)
  have cm : w.cell? ⟨mB, 2, none⟩ = some (.int .i64 len) := by rw [← hlen]; exact r0.out.m.cell 2
  have hL : (nxtL turn number size place used entry).map tl = (List.range (secs len)).map (fun k => tl (nxtE turn number size place used entry k)) := by unfold nxtL; rw [List.map_map, hlen]; rfl
  rw [hL] at hY ⊢
  have hs1 : secs len < 200 := by unfold secs; omega
  have hle : len ≤ 8000 := by omega
  have hle2 : len ≤ ec := by omega
  have hfin : ∀ k, k < secs len → 52 * k ≤ len ∧ 52 * k ≤ min (52 * k + 52) len := fun k h => by unfold secs at h; omega
  have hfin' := Lib.hid hfin
  have hY' := Lib.hid hY
  have hJ' := Lib.hid hJ
  have hR' := Lib.hid hR
  have hRx' := Lib.hid hRx
  have hlen' := Lib.hid hlen
  have hJ0 : Hid (J (((List.range (secs len)).map (fun k => tl (nxtE turn number size place used entry k))).take 0) w ∧ w.heap.size ≤ w.heap.size) := ⟨by rw [List.take_zero]; exact h0, Nat.le_refl _⟩
  have hsec := fun u => sectors_any len u (by omega)
  clear hY hJ hJx hR hRx h0 hlen hL hn hec hfin
  refine callsIn_of_wp Tryz.func85 rfl trivial ?_ rfl
  simp only [Tryz.ntmps85, List.size_toArray, List.length_cons, List.length_nil, Nat.reduceAdd, Nat.reduceSub, Array.replicate_succ, Array.replicate_zero, List.push_toArray, List.append_toArray, List.nil_append, List.cons_append]
  have hfS : Fence.wide.fn 15 := trivial
  have hfP : Fence.wide.fn 86 := trivial
  gi_wp2_with (gi_at_call 15; refine (callsIn_wide.2 (hsec _)).mono ?_; rintro e w' ⟨rfl, hw'⟩; obtain rfl := hw'.symm; clear hw')
  gi_loopw [11] (fun v11 wr => ∃ k : Nat, k ≤ secs len ∧ v11 = .int .i64 k ∧ Hid (J (((List.range (secs len)).map (fun k => tl (nxtE turn number size place used entry k))).take k) wr ∧ w.heap.size ≤ wr.heap.size)) (fun v11 _ => secs len - (RowKit.intOf v11).toNat)
  case atStart => exact ⟨0, by omega, rfl, hJ0⟩
  case round =>
    obtain ⟨k, hk, rfl, hJk⟩ := hrel
    by_cases hlt : k < secs len
    · have rk := Lib.hid (hR'.out _ _ hJk.out.1)
      have hff := hfin'.out k hlt
      obtain ⟨lo, hlo⟩ : ∃ lo, 52 * k = lo := ⟨_, rfl⟩
      obtain ⟨hi, hhi⟩ : ∃ hi, min (52 * k + 52) len = hi := ⟨_, rfl⟩
      have hpc := fun u => piece_any turn number len k u (by omega) (by omega)
      rw [hhi, hlo] at hpc
      have hlh : lo ≤ hi := by omega
      have hhc : hi ≤ ec := by omega
      have hhl : hi ≤ len := by omega
      have hd52 : hi - lo ≤ 52 := by omega
      obtain ⟨nn, hnn⟩ : ∃ nn, used + k = nn := ⟨_, rfl⟩
      have hnn1 : nn < 100000 := by omega
      have hnn2 : ((used : Int) + (k : Int)) = (nn : Int) := by omega
      obtain ⟨sb, hsb⟩ : ∃ sb, 2 + wrapAt size place nn = sb := ⟨_, rfl⟩
      obtain ⟨pc, hpq⟩ : ∃ pc, nxtP len k entry = pc := ⟨_, rfl⟩
      have hpl : pc.length = hi - lo := by rw [← hpq]; unfold nxtP; rw [List.length_take, List.length_drop, hlen'.out]; omega
      have hnx : Hid (nxtE turn number size place used entry k = ((sb : Int), pad (markB turn number len k pc))) := by
        show _ = _
        unfold nxtE
        rw [hlen'.out, hnn, hsb, hpq]
      have hcutv : ∀ u, Lib.HoldsBytes u (.slice eq len ec) entry → Lib.HoldsBytes u (.slice (cutq eq ec lo) pc.length (ec - lo)) pc := fun u hu => by
        have h := holds_cut (l := lo) (h := hi) hu hlen'.out.symm hlh hhl hle2
        have e : (entry.drop lo).take (hi - lo) = pc := by rw [← hpq, ← hlo, ← hhi]; rfl
        rw [e] at h
        rw [hpl]
        exact h
      have rk2 := rk
      rw [hlen'.out] at rk2
      have hcut2 := Lib.hid hcutv
      have hk2 := Lib.hid hk
      have hnn3 := Lib.hid hnn
      have hpl2 := Lib.hid hpl
      have hsb' := hsb
      clear rk hlo hhi hff hsb hpq hnn hcutv hpl
      gi_wp2_with (first
        | (gi_at_call 86; refine (callsIn_wide.2 (hpc _)).mono ?_; rintro e w3 ⟨rfl, hb3⟩)
        | (with_reducible refine wpListIn_load_at rfl 129 (.tmp 1) rfl Tryz.underlying129 rfl (vs := mkL turn number len) (size_mark turn number len) rfl (rk2.out.m.part (o := 0) (pre := []) (rest := []) (by simp) rfl) ?_))
      refine wpIn_region_held (by kernel_rfl) (NxR mB rB eB rg (mkL turn number len) (.slice eq len ec) entry (hdL turn2 size first place nq nl nc ++ [rd, re, .int .i64 used, rb])) ?_
      change inH _ _ _ _ _ _ _ _ _ _ (World.drew w3)
      have hS := (rk2.out.below hb3).drew
      refine inH_take (i := 0) (dst := some 20) rfl rfl rfl (by kernel_rfl) (by kernel_rfl) (by kernel_rfl) (fun _ _ _ h => h) ⟨y_move (.tmp 0) rfl rfl rfl, fun _ => rfl⟩ hS ?_
      go_frame
      refine inH_take (i := 1) (dst := some 21) (v := .pointer (some ⟨rg, 0, none⟩)) rfl rfl rfl (by kernel_rfl) (by kernel_rfl) (by kernel_rfl) (fun _ _ _ h => h) ⟨.inl ⟨rfl, fun W hW => by have c1 : W.cell? ⟨rB, 0, none⟩ = some (.pointer (some ⟨rg, 0, none⟩)) := (NxR.r hW).cell 0; go_simp⟩, fun _ => rfl⟩ hS ?_
      go_frame
      refine inH_take (i := 2) (dst := some 22) (v := .pointer (some ⟨rg, 0, none⟩)) rfl rfl rfl (by kernel_rfl) (by kernel_rfl) (by kernel_rfl) (fun _ _ _ h => h) ⟨.inl ⟨rfl, fun W hW => by go_simp⟩, fun _ => rfl⟩ hS ?_
      go_frame
      refine inH_take (i := 3) (dst := some 23) (v := .pointer (some ⟨rg, 0, none⟩)) rfl rfl rfl (by kernel_rfl) (by kernel_rfl) (by kernel_rfl) (fun _ _ _ h => h) ⟨.inl ⟨rfl, fun W hW => by go_simp⟩, fun _ => rfl⟩ hS ?_
      go_frame
      refine inH_take (i := 4) (dst := some 24) rfl rfl rfl (by kernel_rfl) (by kernel_rfl) (by kernel_rfl) (fun _ _ _ h => h) ⟨y_load_agg 94 (.tmp 23) rfl rfl rfl (fun W hW => load_ring_head (NxR.g hW)), fun _ => rfl⟩ hS ?_
      go_frame
      refine inH_take (i := 5) (dst := some 25) (v := .pointer (some ⟨rg, 0, none⟩)) rfl rfl rfl (by kernel_rfl) (by kernel_rfl) (by kernel_rfl) (fun _ _ _ h => h) ⟨.inl ⟨rfl, fun W hW => by have c1 : W.cell? ⟨rB, 0, none⟩ = some (.pointer (some ⟨rg, 0, none⟩)) := (NxR.r hW).cell 0; go_simp⟩, fun _ => rfl⟩ hS ?_
      go_frame
      refine inH_take (i := 6) (dst := some 26) (v := .pointer (some ⟨rg, 0, none⟩)) rfl rfl rfl (by kernel_rfl) (by kernel_rfl) (by kernel_rfl) (fun _ _ _ h => h) ⟨.inl ⟨rfl, fun W hW => by go_simp⟩, fun _ => rfl⟩ hS ?_
      go_frame
      refine inH_take (i := 7) (dst := some 27) (v := .pointer (some ⟨rg, 7, none⟩)) rfl rfl rfl (by kernel_rfl) (by kernel_rfl) (by kernel_rfl) (fun _ _ _ h => h) ⟨.inl ⟨rfl, fun W hW => by go_simp⟩, fun _ => rfl⟩ hS ?_
      go_frame
      refine inH_take (i := 8) (dst := some 28) (v := .int .i64 used) rfl rfl rfl (by kernel_rfl) (by kernel_rfl) (by kernel_rfl) (fun _ _ _ h => h) ⟨.inl ⟨rfl, fun W hW => by have c1 : W.cell? ⟨rg, 7, none⟩ = some (.int .i64 used) := (NxR.g hW).cell 7; go_simp⟩, fun _ => rfl⟩ hS ?_
      go_frame
      refine inH_take (i := 9) (dst := some 29) rfl rfl rfl (by kernel_rfl) (by kernel_rfl) (by kernel_rfl) (fun _ _ _ h => h) ⟨y_move (.tmp 5) rfl rfl rfl, fun _ => rfl⟩ hS ?_
      go_frame
      refine inH_take (i := 10) (dst := some 30) (v := .int .i64 nn) rfl rfl rfl (by kernel_rfl) (by kernel_rfl) (by kernel_rfl) (fun _ _ _ h => h) ⟨.inl ⟨rfl, fun W hW => by have hwp := Go.IntWalk.i64_in (nn : Int) ⟨by omega, by omega⟩; go_simp⟩, fun _ => rfl⟩ hS ?_
      go_frame
      refine inH_take (i := 12) (dst := some 32) rfl rfl rfl (by kernel_rfl) (by kernel_rfl) (by kernel_rfl) (fun _ _ _ h => h) ⟨y_load_agg 129 (.tmp 1) rfl rfl rfl (fun W hW => load_mark (NxR.m hW)), fun _ => rfl⟩ hS ?_
      go_frame
      refine inH_take (i := 13) (dst := some 33) rfl rfl rfl (by kernel_rfl) (by kernel_rfl) (by kernel_rfl) (fun _ _ _ h => h) ⟨y_move (.tmp 5) rfl rfl rfl, fun _ => rfl⟩ hS ?_
      go_frame
      refine inH_take (i := 14) (dst := some 34) (v := .slice eq len ec) rfl rfl rfl (by kernel_rfl) (by kernel_rfl) (by kernel_rfl) (fun _ _ _ h => h) ⟨.inl ⟨rfl, fun W hW => by have c1 : W.cell? ⟨eB, 0, none⟩ = some (.slice eq len ec) := (NxR.e hW).cell 0; go_simp⟩, fun _ => rfl⟩ hS ?_
      go_frame
      refine inH_take (i := 15) (dst := some 35) rfl rfl rfl (by kernel_rfl) (by kernel_rfl) (by kernel_rfl) (fun _ _ _ h => h) ⟨y_move (.tmp 6) rfl rfl rfl, fun _ => rfl⟩ hS ?_
      go_frame
      refine inH_take (i := 16) (dst := some 36) rfl rfl rfl (by kernel_rfl) (by kernel_rfl) (by kernel_rfl) (fun _ _ _ h => h) ⟨y_move (.tmp 7) rfl rfl rfl, fun _ => rfl⟩ hS ?_
      go_frame
      refine inH_take (i := 17) (dst := some 37) (v := .slice (cutq eq ec lo) (hi - lo) (ec - lo)) rfl rfl rfl (by kernel_rfl) (by kernel_rfl) (by kernel_rfl) (fun _ _ _ h => h) ⟨y_slice (.tmp 34) (.tmp 35) (.tmp 36) rfl rfl rfl rfl rfl hlh hhc, fun _ => rfl⟩ hS ?_
      go_frame
      have hcs := sectorBehind_any turn2 size first place nn nq nl nc w3.drew hp hnn1 hs
      rw [hsb'] at hcs
      refine inH_call (i := 11) (dst := some 31) rfl rfl (fun h => by cases h) (fun _ => trivial) rfl (by kernel_rfl) rfl (by go_simp) (callsIn_wide.2 hcs) ?_
      rintro e w5 ⟨rfl, hb5⟩
      have hS5 := hS.below hb5
      refine ⟨_, rfl, hS5, ?_⟩
      go_frame
      have hcm := markBlock_any turn number len k (cutq eq ec lo) (ec - lo) pc w5 (hcut2.out _ hS5.v) (by rw [hpl2.out]; exact hd52) ht (by omega)
      rw [hpl2.out] at hcm
      refine inH_call (i := 18) (dst := some 38) rfl rfl (fun h => by cases h) (fun _ => trivial) rfl (by kernel_rfl) rfl (by go_simp) (callsIn_wide.2 hcm) ?_
      rintro e w6 ⟨rfl, hb6⟩
      have hS6 := hS5.below hb6
      refine ⟨_, rfl, hS6, ?_⟩
      go_frame
      have hb36 : RowKit.Below wr.heap.size wr w6 := (hb3.trans ((((RowKit.Below.refl _ _).drew.trans hb5).trans (hb6.mono hb5.size)).mono hb3.size))
      have hJ6 := hJ'.out _ _ _ hJk.out.1 (hb36.mono hJk.out.2)
      have hz6 : w.heap.size ≤ w6.heap.size := Nat.le_trans hJk.out.2 hb36.size
      obtain ⟨fn, tmps, asg, bdy, hy, hRd⟩ := yield_n 8 (hY'.out _ _ _ w6 (map_split (fun k => tl (nxtE turn number size place used entry k)) hlt) hz6 hJ6)
      rw [← map_next (fun k => tl (nxtE turn number size place used entry k)) hlt] at hRd
      have hy2 : Sem.run Tryz.prog (Instr.yield l #[.int .i64 (sb : Int), agg (pad (markB turn number len k pc))]) w6 = .ok (.round l fn tmps asg bdy) w6 := by
        have h := hy
        rw [hnx.out] at h
        exact h
      clear hy
      have hRx2 := hRx'
      have hR2 := hR'
      rw [hlen'.out] at hRx2 hR2
      refine inH_yield (i := 19) (dst := some 39) rfl rfl (fun h => by cases h) (fun _ => trivial) rfl (by kernel_rfl) rfl (by go_simp <;> exact hy2) hRd ?_
      rintro e w7 ⟨hs7, hz7, (⟨rfl, h7⟩ | ⟨rfl, h7⟩)⟩
      · have hS7 := hR2.out _ _ h7
        have hJ7 : Hid (J (((List.range (secs len)).map (fun k => tl (nxtE turn number size place used entry k))).take (k + 1)) w7 ∧ w.heap.size ≤ w7.heap.size) := ⟨h7, Nat.le_trans hz6 hz7⟩
        refine ⟨_, rfl, hS7, ?_⟩
        clear h7 hy2 hRd
        go_frame
        refine inH_value (i := 20) (dst := some 40) (w' := w7) (v := .bool false) rfl rfl (fun _ => trivial) rfl (by kernel_rfl) rfl (by go_simp) hS7 ?_
        go_frame
        refine inH_done (by kernel_rfl) ?_
        gi_wp2
        go_roundw
        case rel => exact ⟨k + 1, by omega, by go_num, hJ7⟩
        case measure => simp [RowKit.intOf]; omega
      · have hS7 := hRx2.out _ h7
        have hx7 := Lib.hid h7
        refine ⟨_, rfl, hS7, ?_⟩
        clear h7 hy2 hRd
        go_frame
        refine inH_value (i := 20) (dst := some 40) (w' := w7) (v := .bool true) rfl rfl (fun _ => trivial) rfl (by kernel_rfl) rfl (by go_simp) hS7 ?_
        go_frame
        refine inH_done (by kernel_rfl) ?_
        gi_wp2
        refine bodyPost_ret (results_none rfl _ _ _) rfl ?_
        exact ⟨⟨_, rfl⟩, .inr hx7.out⟩
    · obtain rfl : secs len = k := by omega
      have hend := Lib.hid hJk.out.1
      gi_wp2
      go_end0
      refine ⟨⟨_, rfl⟩, .inl ?_⟩
      have := hend.out
      rwa [List.take_of_length_le (by simp)] at this

end Go.Proofs.YtjhnagipagkhiaaGreat
