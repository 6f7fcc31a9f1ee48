/- DiskStops: for every number, list of operations and number the law returns true, and its arguments read as they did. No condition. -/
import Derived.Test.YtegiifdmjmfoeaaPlayed
import Derived.BigQuiet
import Derived.Deep.QuietTactic
namespace Go.Proofs.Ytegiifdmjmfoeaa
open Go.ChangeShapes Go.WideShapes Go.ChangeAt Go.RowKit

theorem run_len (d : Dk) (hG : Good d) (o : OpV) : (runRes d o).1.1.length = 64 := by
  unfold runRes rdRes
  repeat' split
  all_goals first
    | exact z64_len
    | (rename_i h2 _; have := why_ok (Decidable.not_not.1 h2); exact Dk.says_len hG this.2.1 this.2.2)

theorem stop_dead {d : Dk} (h : d.dead = true) (o : OpV) (hk : kd o < 6) : (runRes d o).1.2 = 9 ∧ (runRes d o).2 = d := by
  have hw : why d 2 o.pos = 9 := by unfold why; rw [if_pos ⟨h, by decide⟩]
  unfold runRes rdRes syRes wrRes
  rw [hw, if_pos (show (9 : Int) ≠ 0 by decide), if_pos h, if_pos (show (9 : Int) ≠ 0 by decide), if_neg (show kd o ≠ 6 by omega), if_neg (show kd o ≠ 7 by omega), if_neg (show kd o ≠ 8 by omega)]
  repeat' split
  all_goals exact ⟨rfl, rfl⟩

theorem stop_off {d : Dk} (h : d.dead = false) (o : OpV) (hk : kd o < 6) (h5 : kd o ≠ 5) (hp : ¬ (0 ≤ o.pos ∧ o.pos < d.held.length)) : (runRes d o).1.2 = 2 ∧ (runRes d o).2 = d := by
  have hw : why d 2 o.pos = 2 := by unfold why; rw [if_neg (by rw [h]; simp), if_pos ⟨rfl, hp⟩]
  unfold runRes rdRes wrRes
  rw [hw, if_pos (show (2 : Int) ≠ 0 by decide), if_neg h5, if_pos (show (2 : Int) ≠ 0 by decide), if_neg (show kd o ≠ 6 by omega), if_neg (show kd o ≠ 7 by omega), if_neg (show kd o ≠ 8 by omega)]
  repeat' split
  all_goals exact ⟨rfl, rfl⟩

theorem stop_on {d : Dk} (h : d.dead = false) (o : OpV) (hk : kd o < 6) (hp : kd o = 5 ∨ (0 ≤ o.pos ∧ o.pos < d.held.length)) (hf : d.fl = false) :
    (runRes d o).2.fl = false ∧ (runRes d o).2.held.length = d.held.length ∧ (runRes d o).2.ops = d.ops + 1 ∧
    (if kd o ≠ 4 ∧ hit d.al d.an = true then (runRes d o).1.2 = 9 ∧ (runRes d o).2.dead = true
     else (runRes d o).1.2 = 0 ∧ (runRes d o).2.dead = false ∧ (runRes d o).2.al = d.al ∧ (runRes d o).2.an = if kd o = 4 then d.an else burnt d.al d.an) := by
  have hff : ∀ x, hit d.fl x = false := fun x => by simp [hit, hf]
  unfold runRes
  by_cases c4 : kd o = 4
  · have hw : why d 2 o.pos = 0 := by unfold why; rw [if_neg (by rw [h]; simp), if_neg (fun hn => hn.2 (hp.resolve_left (by omega)))]
    rw [if_pos c4, if_neg (fun hn => hn.1 c4)]
    unfold rdRes
    rw [hw, if_neg (by decide), if_neg (by rw [hff]; decide), if_pos c4]
    exact ⟨hf, rfl, rfl, rfl, h, rfl, rfl⟩
  · rw [if_neg c4]
    by_cases c5 : kd o = 5
    · rw [if_pos c5]
      unfold syRes
      rw [if_neg (by rw [h]; decide)]
      by_cases hh : hit d.al d.an = true
      · rw [if_pos hh, if_pos ⟨c4, hh⟩]
        exact ⟨hf, rfl, rfl, rfl, rfl⟩
      · rw [if_neg hh, if_neg (by rw [hff]; decide), if_neg (fun hn => hh hn.2), if_neg c4]
        refine ⟨hf, ?_, rfl, rfl, h, rfl, rfl⟩
        show (sett _ _ _ _).2.length = _
        rw [sett_len]; rfl
    · have hw : why d 2 o.pos = 0 := by unfold why; rw [if_neg (by rw [h]; simp), if_neg (fun hn => hn.2 (hp.resolve_left c5))]
      rw [if_neg c5, if_neg (show kd o ≠ 6 by omega), if_neg (show kd o ≠ 7 by omega), if_neg (show kd o ≠ 8 by omega)]
      unfold wrRes
      rw [hw, if_neg (by decide)]
      by_cases hh : hit d.al d.an = true
      · rw [if_pos hh, if_pos ⟨c4, hh⟩]
        exact ⟨hf, rfl, rfl, rfl, rfl⟩
      · rw [if_neg hh, if_neg (by rw [hff]; decide), if_neg (fun hn => hh hn.2), if_neg c4]
        exact ⟨hf, rfl, rfl, rfl, h, rfl, rfl⟩

structure StopRel (w W : World) (p : Pl) (n : Nat) (k : Int) (i : Nat) (done : Int) : Prop where
  ex : ∃ d, Mine w W p d ∧ d.fl = false ∧ d.held.length = n ∧ 0 ≤ d.ops ∧ d.ops ≤ 50 + i ∧ d.ops ≤ 90 ∧ (d.dead = false → d.al = true ∧ d.an = k - done) ∧ 0 ≤ done ∧ done ≤ k

set_option maxRecDepth 100000 in
set_option maxHeartbeats 8000000 in
theorem stops_any (n at_ : Int) (v : Value) (os : List OpV) (w : World) (hn : I64 n) (hv : IsOps w v os) :
    Calls Try.prog 8 #[.int .i64 n, v, .int .i64 at_] w (fun e w' => e = .returned (.bool true) ∧ Below w.heap.size w w') := by
  obtain ⟨q, c, rfl, hq0, hq1⟩ := hv.shape
  have hv0 := Lib.hid hv
  have hol : os.length ≤ 9223372036854775807 := by have := hv.len; unfold maxLen at this; omega
  clear hv
  have hq0' := Lib.hid hq0
  have hq1' := Lib.hid hq1
  clear hq0 hq1
  obtain ⟨k, hk⟩ : ∃ k : Int, (IntKind.u64.wrap at_).tmod 8 = k := ⟨_, rfl⟩
  have hk0 : 0 ≤ k ∧ k < 8 := by
    rw [← hk, IntKind.wrap_u64, Int.tmod_eq_emod_of_nonneg (by omega)]
    omega
  obtain ⟨hk1, hk2⟩ := hk0
  go_enter Try.func8, Try.ntmps8
  go_wp2_with fail
  refine (wakes_any w).mono ?_
  rintro e w1 ⟨rfl, hb1⟩
  have hb1' := Lib.hid hb1
  clear hb1
  go_wp2_with fail
  refine (played_any n (.slice none 0 0) [] w1 hn ⟨⟨none, 0, rfl, fun _ => rfl, fun a ha => by cases ha⟩, (fun o ho => by cases ho), Nat.zero_le _⟩).mono ?_
  rintro e w2 ⟨p, d, rfl, hm, hc, ho0, ho1⟩
  have m2 : Hid (Mine w w2 p d) := ⟨hm.disk, hb1'.out.trans (hm.below.mono hb1'.out.size), fun x hx => Nat.le_trans hb1'.out.size (hm.low x hx)⟩
  have hc2 := Lib.hid hc
  have ho2 := Lib.hid (And.intro ho0 ho1)
  clear hm hc ho0 ho1
  have hA2 : armRes d k = (0, { d with al := true, an := k }) := by
    unfold armRes
    rw [hc2.out.dead, if_neg (by decide)]
    simp [hk1]
  have hcl := Lib.hid (arm_any p d w2 m2.out.disk k (by omega))
  rw [hA2] at hcl
  clear hA2
  have hkl := Lib.hid hk1
  go_wp2_with (go_at_call 33; refine hcl.out.mono ?_; clear hcl; rintro e w3 ⟨rfl, hA, hT⟩
               have hS0 : Hid (StopRel w w3 p (szOf n) k 0 0) := ⟨_, m2.out.tch hA hT, hc2.out.fl, hc2.out.len, ho2.out.1, by have := ho2.out.2; show d.ops ≤ 50 + ((0 : Nat) : Int); omega, by have := ho2.out.2; show d.ops ≤ 90; omega, fun _ => ⟨rfl, by show k = k - 0; omega⟩, Int.le_refl _, hkl.out⟩
               clear hA hT)
  clear m2 hc2 ho2 hk hkl
  go_loopw [37, 10] (fun v37 v10 wr => ∃ (i : Nat) (done : Int), i ≤ os.length ∧ v37 = .int .i64 i ∧ v10 = .int .i64 done ∧ Hid (StopRel w wr p (szOf n) k (min i 40) done)) (fun v37 _ _ => os.length - (intOf v37).toNat)
  case atStart => exact ⟨0, 0, by omega, by go_num, by go_num, by simpa using hS0⟩
  case round =>
    obtain ⟨i, done, hi, rfl, rfl, hr⟩ := hrel
    by_cases hlt : i < os.length
    · obtain ⟨d, hm, hfl, hln, ho0, ho1, ho2, hal, hd0, hd1⟩ := hr.out.ex
      have hx := List.getElem?_eq_getElem hlt
      obtain ⟨o, hoe⟩ : ∃ o, os[i] = o := ⟨_, rfl⟩
      rw [hoe] at hx
      cases q with
      | none => rw [hq0'.out rfl] at hlt; simp at hlt
      | some a =>
        have hin : (i : Int) < os.length := by omega
        have hm' := Lib.hid hm
        have hob := Lib.hid (And.intro ho0 (And.intro ho1 (And.intro ho2 (And.intro hal (And.intro hd0 hd1)))))
        have hop := Lib.hid ((hv0.out.each o (List.mem_of_getElem? hx)).below (hm.below) (Nat.le_refl _))
        have hcel : ∀ j x, o.cells[j]? = some x → wr.cell? ((a.add (i * 5)).add j) = some x := fun j x hj => by
          rw [Addr.add_add]
          exact cell_keeps hm.below (Nat.le_refl _) (hq1'.out a rfl i o hx j x hj)
        have hcel' := Lib.hid hcel
        unfold OpV.cells at hcel'
        have hsz5 : (Try.prog.info? 35).map (·.size) = some [Value.int .i64 o.kind, .int .i64 o.pos, .int .i64 o.num, .int .u8 o.byte, o.kv].length := by kernel_rfl
        have hrun := Lib.hid (run_any p d)
        have hrl := Lib.hid (run_len d hm.disk.good o)
        have hfl' := Lib.hid hfl
        have hln' := Lib.hid hln
        clear hm ho0 ho1 ho2 hal hcel hx hr hS0 hoe hfl hln
        obtain ⟨kq, kc, hkv, hkr⟩ := hop.out.keep
        clear hkr
        obtain ⟨kind, pos, num, byte, ks, kv⟩ := o
        simp only at hkv hcel' hsz5
        subst hkv
        by_cases h40 : i < 40
        · have h40' : (i : Int) < 40 := by omega
          by_cases hk : kd ⟨kind, pos, num, byte, ks, .slice kq ks.length kc⟩ < 6
          · have hkk : (IntKind.u64.wrap kind).tmod 9 = kd ⟨kind, pos, num, byte, ks, .slice kq ks.length kc⟩ := kd_eq ⟨kind, pos, num, byte, ks, .slice kq ks.length kc⟩
            have hk' : (IntKind.u64.wrap kind).tmod 9 < 6 := by rw [hkk]; exact hk
            have hkq := Lib.hid hkk
            clear hkk
            obtain ⟨r, hre⟩ : ∃ r, runRes d ⟨kind, pos, num, byte, ks, .slice kq ks.length kc⟩ = r := ⟨_, rfl⟩
            have hmB := Lib.hid (hm'.out.stay ((Below.refl _ _).alloc (Nat.le_refl _) (.cells #[.int .i64 kind, .int .i64 pos, .int .i64 num, .int .u8 byte, .slice kq ks.length kc] 35)))
            have hrB : Hid (RowV 35 (wr.alloc (.cells #[.int .i64 kind, .int .i64 pos, .int .i64 num, .int .u8 byte, .slice kq ks.length kc] 35)) wr.heap.size [.int .i64 kind, .int .i64 pos, .int .i64 num, .int .u8 byte, .slice kq ks.length kc]) := RowV.made wr _
            have hnB := hm'.out.disk.not_in (Nat.le_refl _)
            have hcr := Lib.hid (hrun.out _ hmB.out.disk ⟨kind, pos, num, byte, ks, .slice kq ks.length kc⟩ (hop.out.below ((Below.refl _ _).alloc (Nat.le_refl _) _) (Nat.le_refl _)) hob.out.1 (by have := hob.out.2.2.1; omega))
            rw [hre] at hcr hrl
            clear hrun
            obtain ⟨dd, hdd⟩ : ∃ b, d.dead = b := ⟨_, rfl⟩
            go_wp2_with (first
              | (with_reducible refine wpList_load_at rfl 35 (.tmp 40) rfl Try.underlying35 rfl hsz5 rfl hcel'.out ?_)
              | (go_at_call 23; refine (dead_any p d _ hmB.out.disk).mono ?_; rintro e w' ⟨rfl, hw⟩; obtain rfl := hw.symm; rw [hdd])
              | (go_at_call 13
                 refine hcr.out.mono ?_
                 clear hcr
                 rintro e w5 ⟨rfl, hA, hT⟩
                 have m5 := Lib.hid (hmB.out.tch hA hT)
                 have r5 := Lib.hid (hrB.out.tch hT hnB)
                 have m6 := Lib.hid (m5.out.stay ((Below.refl _ _).alloc (Nat.le_refl _) (.cells (bl z64).toArray 37)))
                 have g6 : Hid (RowV 37 (w5.alloc (.cells (bl z64).toArray 37)) w5.heap.size (bl z64)) := RowV.made w5 _
                 have r6 := Lib.hid (r5.out.block (heap_alloc_old w5 (.cells (bl z64).toArray 37) r5.out.lt))
                 have hlt6 := r5.out.lt
                 have hn6 := m5.out.disk.not_in (Nat.le_refl _)
                 clear hA hT)
              | (with_reducible refine wpList_alloc_z rfl 37 rfl alloc37z ?_)
              | ((with_reducible refine wpList_store_at rfl 37 (.tmp 15) (.tmp 58) rfl (o := 0) rfl rfl g6.out (bl_size hrl.out) (bl_fits hrl.out z64_len) (bl_one r.1.1) ?_)
                 intro w7 h7 hg7
                 have m7 : Hid (Mine w w7 p r.2) := ⟨m6.out.disk.other hg7 hn6, m6.out.below.grown hg7 m6.out.below.size (fun j e => by cases e; exact m5.out.below.size), m6.out.low⟩
                 have r7 := r6.out.kept hg7 (by omega)
                 have c7 : w7.cell? ⟨wr.heap.size, 1, none⟩ = some (.int .i64 pos) := r7.cell 1
                 have m8 : ∀ nq, Hid (Mine w (w7.drewN nq) p r.2) := fun nq => m7.out.stay (below_drewN w7 nq)
                 clear h7 hg7 r7))
            have hob1 := hob.out
            clear hmB hrB m5 r5 m6 g6 r6 hlt6 hn6 hcel' hsz5 hop hnB hrl
            have hfin : ∀ (nq : Nat) (done' : Int), (r.2.fl = false ∧ r.2.held.length = szOf n ∧ 0 ≤ r.2.ops ∧ r.2.ops ≤ d.ops + 1 ∧ (r.2.dead = false → r.2.al = true ∧ r.2.an = k - done') ∧ 0 ≤ done' ∧ done' ≤ k) → Hid (StopRel w (w7.drewN nq) p (szOf n) k (min (i + 1) 40) done') := by
              rintro nq done' ⟨h1, h2, h3, h4, h5, h6, h7⟩
              have e1 : min i 40 = i := by omega
              have e2 : min (i + 1) 40 = i + 1 := by omega
              rw [e1] at hob1
              rw [e2]
              exact ⟨r.2, (m8 nq).out, h1, h2, h3, by have := hob1.2.1; omega, by have := hob1.2.1; omega, h5, h6, h7⟩
            have hfin' := Lib.hid hfin
            clear hfin
            by_cases h5 : kd ⟨kind, pos, num, byte, ks, .slice kq ks.length kc⟩ = 5
            · have h5' : (IntKind.u64.wrap kind).tmod 9 = 5 := by rw [hkq.out]; exact h5
              go_quiet (fail)
              cases dd with
              | true =>
                have hst := stop_dead hdd ⟨kind, pos, num, byte, ks, .slice kq ks.length kc⟩ hk
                rw [hre] at hst
                have hr9 := hst.1
                have hst2 := Lib.hid hst.2
                clear hst
                go_wp2
                go_roundw
                case rel => exact ⟨i + 1, done, by omega, by go_num, by go_num, hfin'.out _ done (by rw [hst2.out]; exact ⟨hfl'.out, hln'.out, hob1.1, by omega, hob1.2.2.2.1, hob1.2.2.2.2.1, hob1.2.2.2.2.2⟩)⟩
                case measure => simp [intOf]; omega
              | false =>
                have hst := stop_on hdd ⟨kind, pos, num, byte, ks, .slice kq ks.length kc⟩ hk (.inl h5) hfl'.out
                rw [hre] at hst
                obtain ⟨s1, s2, s3, s4⟩ := hst
                obtain ⟨ea, en⟩ := hob1.2.2.2.1 hdd
                have hd0 := hob1.2.2.2.2.1
                have hd1 := hob1.2.2.2.2.2
                have ss := Lib.hid (And.intro s1 (And.intro s2 s3))
                have ho0 := hob1.1
                by_cases hh : hit d.al d.an = true
                · rw [if_pos ⟨(by omega), hh⟩] at s4
                  obtain ⟨hr9, hsd⟩ := s4
                  have hdk : (done == k) = true := by
                    rw [ea, en] at hh
                    simp [hit] at hh
                    simp; omega
                  clear s1 s2 s3 hh
                  go_wp2_with (go_at_call 23; refine (dead_any p r.2 _ (m8 _).out.disk).mono ?_; rintro e w' ⟨rfl, hw⟩; obtain rfl := hw.symm; rw [hsd])
                  go_roundw
                  case rel => exact ⟨i + 1, done, by omega, by go_num, by go_num, hfin'.out _ done ⟨ss.out.1, ss.out.2.1.trans hln'.out, by rw [ss.out.2.2]; omega, by rw [ss.out.2.2]; omega, (fun h => by rw [hsd] at h; cases h), hd0, hd1⟩⟩
                  case measure => simp [intOf]; omega
                · rw [if_neg (fun hn => hh hn.2)] at s4
                  obtain ⟨hr9, hsd, hsa, hsn⟩ := s4
                  have hdn : done ≠ k := by
                    intro e
                    apply hh
                    rw [ea, en, e]
                    simp [hit]
                  have hdk : (done == k) = false := by simpa using hdn
                  have hd8 : done < 8 := by omega
                  rw [if_neg (by omega), ea] at hsn
                  have hfa := Lib.hid (And.intro (hsa.trans ea) hsn)
                  clear s1 s2 s3 hh hsa hsn
                  go_wp2_with (go_at_call 23; refine (dead_any p r.2 _ (m8 _).out.disk).mono ?_; rintro e w' ⟨rfl, hw⟩; obtain rfl := hw.symm; rw [hsd])
                  go_roundw
                  case rel =>
                    refine ⟨i + 1, done + 1, by omega, by go_num, by go_num, hfin'.out _ (done + 1) ⟨ss.out.1, ss.out.2.1.trans hln'.out, by rw [ss.out.2.2]; omega, by rw [ss.out.2.2]; omega, fun _ => ⟨hfa.out.1, ?_⟩, by omega, by omega⟩⟩
                    rw [hfa.out.2]
                    simp only [burnt, if_true]
                    omega
                  case measure => simp [intOf]; omega
            · have h5' : ((IntKind.u64.wrap kind).tmod 9 == 5) = false := by rw [hkq.out]; simpa using h5
              have h5'' : ((IntKind.u64.wrap kind).tmod 9 != 5) = true := by rw [hkq.out]; simpa using h5
              by_cases hp0 : 0 ≤ pos
              · by_cases hp1 : pos < d.held.length
                · have hlr : r.2.held.length = d.held.length := by
                    cases dd with
                    | true => have := stop_dead hdd ⟨kind, pos, num, byte, ks, .slice kq ks.length kc⟩ hk; rw [hre] at this; rw [this.2]
                    | false => have := stop_on hdd ⟨kind, pos, num, byte, ks, .slice kq ks.length kc⟩ hk (.inr ⟨hp0, hp1⟩) hfl'.out; rw [hre] at this; exact this.2.1
                  have hp1r : pos < (r.2.held.length : Int) := by rw [hlr]; exact hp1
                  go_quiet (first | (go_at_call 20; refine Calls.quiet_of_same (len_any p r.2 _ (m8 _).out.disk)))
                  cases dd with
                  | true =>
                    have hst := stop_dead hdd ⟨kind, pos, num, byte, ks, .slice kq ks.length kc⟩ hk
                    rw [hre] at hst
                    have hr9 := hst.1
                    have hst2 := Lib.hid hst.2
                    clear hst
                    go_wp2
                    go_roundw
                    case rel => exact ⟨i + 1, done, by omega, by go_num, by go_num, hfin'.out _ done (by rw [hst2.out]; exact ⟨hfl'.out, hln'.out, hob1.1, by omega, hob1.2.2.2.1, hob1.2.2.2.2.1, hob1.2.2.2.2.2⟩)⟩
                    case measure => simp [intOf]; omega
                  | false =>
                    have hst := stop_on hdd ⟨kind, pos, num, byte, ks, .slice kq ks.length kc⟩ hk (.inr ⟨hp0, hp1⟩) hfl'.out
                    rw [hre] at hst
                    obtain ⟨s1, s2, s3, s4⟩ := hst
                    obtain ⟨ea, en⟩ := hob1.2.2.2.1 hdd
                    have hd0 := hob1.2.2.2.2.1
                    have hd1 := hob1.2.2.2.2.2
                    have ss := Lib.hid (And.intro s1 (And.intro s2 s3))
                    have ho0 := hob1.1
                    by_cases h4 : kd ⟨kind, pos, num, byte, ks, .slice kq ks.length kc⟩ = 4
                    · have h4' : (IntKind.u64.wrap kind).tmod 9 = 4 := by rw [hkq.out]; exact h4
                      rw [if_neg (fun hn => hn.1 h4)] at s4
                      obtain ⟨hr9, hsd, hsa, hsn⟩ := s4
                      rw [if_pos h4] at hsn
                      have hfa := Lib.hid (And.intro (hsa.trans ea) (hsn.trans en))
                      clear s1 s2 s3 hsa hsn
                      go_wp2_with (go_at_call 23; refine (dead_any p r.2 _ (m8 _).out.disk).mono ?_; rintro e w' ⟨rfl, hw⟩; obtain rfl := hw.symm; rw [hsd])
                      go_roundw
                      case rel => exact ⟨i + 1, done, by omega, by go_num, by go_num, hfin'.out _ done ⟨ss.out.1, ss.out.2.1.trans hln'.out, by rw [ss.out.2.2]; omega, by rw [ss.out.2.2]; omega, fun _ => hfa.out, hd0, hd1⟩⟩
                      case measure => simp [intOf]; omega
                    · have h4' : ((IntKind.u64.wrap kind).tmod 9 == 4) = false := by rw [hkq.out]; simpa using h4
                      have h4'' : ((IntKind.u64.wrap kind).tmod 9 != 4) = true := by rw [hkq.out]; simpa using h4
                      by_cases hh : hit d.al d.an = true
                      · rw [if_pos ⟨h4, hh⟩] at s4
                        obtain ⟨hr9, hsd⟩ := s4
                        have hdk : (done == k) = true := by
                          rw [ea, en] at hh
                          simp [hit] at hh
                          simp; omega
                        clear s1 s2 s3 hh
                        go_wp2_with (go_at_call 23; refine (dead_any p r.2 _ (m8 _).out.disk).mono ?_; rintro e w' ⟨rfl, hw⟩; obtain rfl := hw.symm; rw [hsd])
                        go_roundw
                        case rel => exact ⟨i + 1, done, by omega, by go_num, by go_num, hfin'.out _ done ⟨ss.out.1, ss.out.2.1.trans hln'.out, by rw [ss.out.2.2]; omega, by rw [ss.out.2.2]; omega, (fun h => by rw [hsd] at h; cases h), hd0, hd1⟩⟩
                        case measure => simp [intOf]; omega
                      · rw [if_neg (fun hn => hh hn.2)] at s4
                        obtain ⟨hr9, hsd, hsa, hsn⟩ := s4
                        have hdn : done ≠ k := by
                          intro e
                          apply hh
                          rw [ea, en, e]
                          simp [hit]
                        have hdk : (done == k) = false := by simpa using hdn
                        have hd8 : done < 8 := by omega
                        rw [if_neg h4, ea] at hsn
                        have hfa := Lib.hid (And.intro (hsa.trans ea) hsn)
                        clear s1 s2 s3 hh hsa hsn
                        go_wp2_with (go_at_call 23; refine (dead_any p r.2 _ (m8 _).out.disk).mono ?_; rintro e w' ⟨rfl, hw⟩; obtain rfl := hw.symm; rw [hsd])
                        go_roundw
                        case rel =>
                          refine ⟨i + 1, done + 1, by omega, by go_num, by go_num, hfin'.out _ (done + 1) ⟨ss.out.1, ss.out.2.1.trans hln'.out, by rw [ss.out.2.2]; omega, by rw [ss.out.2.2]; omega, fun _ => ⟨hfa.out.1, ?_⟩, by omega, by omega⟩⟩
                          rw [hfa.out.2]
                          simp only [burnt, if_true]
                          omega
                        case measure => simp [intOf]; omega
                · have hp1' : (d.held.length : Int) ≤ pos := by omega
                  have hlr : r.2.held.length = d.held.length := by
                    cases dd with
                    | true => have := stop_dead hdd ⟨kind, pos, num, byte, ks, .slice kq ks.length kc⟩ hk; rw [hre] at this; rw [this.2]
                    | false => have := stop_off hdd ⟨kind, pos, num, byte, ks, .slice kq ks.length kc⟩ hk h5 (fun hn => hp1 hn.2); rw [hre] at this; rw [this.2]
                  have hp1r : (r.2.held.length : Int) ≤ pos := by rw [hlr]; exact hp1'
                  go_quiet (first | (go_at_call 20; refine Calls.quiet_of_same (len_any p r.2 _ (m8 _).out.disk)))
                  cases dd with
                  | true =>
                    have hst := stop_dead hdd ⟨kind, pos, num, byte, ks, .slice kq ks.length kc⟩ hk
                    rw [hre] at hst
                    have hr9 := hst.1
                    have hst2 := Lib.hid hst.2
                    clear hst
                    go_wp2
                    go_roundw
                    case rel => exact ⟨i + 1, done, by omega, by go_num, by go_num, hfin'.out _ done (by rw [hst2.out]; exact ⟨hfl'.out, hln'.out, hob1.1, by omega, hob1.2.2.2.1, hob1.2.2.2.2.1, hob1.2.2.2.2.2⟩)⟩
                    case measure => simp [intOf]; omega
                  | false =>
                    have hst := stop_off hdd ⟨kind, pos, num, byte, ks, .slice kq ks.length kc⟩ hk h5 (fun hn => hp1 hn.2)
                    rw [hre] at hst
                    have hr9 := hst.1
                    have hst2 := Lib.hid hst.2
                    clear hst
                    go_wp2
                    go_roundw
                    case rel => exact ⟨i + 1, done, by omega, by go_num, by go_num, hfin'.out _ done (by rw [hst2.out]; exact ⟨hfl'.out, hln'.out, hob1.1, by omega, hob1.2.2.2.1, hob1.2.2.2.2.1, hob1.2.2.2.2.2⟩)⟩
                    case measure => simp [intOf]; omega
              · have hp0' : pos < 0 := by omega
                go_quiet (fail)
                cases dd with
                | true =>
                  have hst := stop_dead hdd ⟨kind, pos, num, byte, ks, .slice kq ks.length kc⟩ hk
                  rw [hre] at hst
                  have hr9 := hst.1
                  have hst2 := Lib.hid hst.2
                  clear hst
                  go_wp2
                  go_roundw
                  case rel => exact ⟨i + 1, done, by omega, by go_num, by go_num, hfin'.out _ done (by rw [hst2.out]; exact ⟨hfl'.out, hln'.out, hob1.1, by omega, hob1.2.2.2.1, hob1.2.2.2.2.1, hob1.2.2.2.2.2⟩)⟩
                  case measure => simp [intOf]; omega
                | false =>
                  have hst := stop_off hdd ⟨kind, pos, num, byte, ks, .slice kq ks.length kc⟩ hk h5 (fun hn => hp0 hn.1)
                  rw [hre] at hst
                  have hr9 := hst.1
                  have hst2 := Lib.hid hst.2
                  clear hst
                  go_wp2
                  go_roundw
                  case rel => exact ⟨i + 1, done, by omega, by go_num, by go_num, hfin'.out _ done (by rw [hst2.out]; exact ⟨hfl'.out, hln'.out, hob1.1, by omega, hob1.2.2.2.1, hob1.2.2.2.2.1, hob1.2.2.2.2.2⟩)⟩
                  case measure => simp [intOf]; omega
          · have hk' : 6 ≤ (IntKind.u64.wrap kind).tmod 9 := by rw [show (IntKind.u64.wrap kind).tmod 9 = _ from kd_eq ⟨kind, pos, num, byte, ks, .slice kq ks.length kc⟩]; omega
            have hob1 := hob.out
            have hS1 : ∀ A, Hid (StopRel w (wr.alloc A) p (szOf n) k (min (i + 1) 40) done) := fun A => by
              have e1 : min i 40 = i := by omega
              have e2 : min (i + 1) 40 = i + 1 := by omega
              rw [e1] at hob1
              rw [e2]
              exact ⟨d, hm'.out.stay ((Below.refl _ _).alloc (Nat.le_refl _) _), hfl'.out, hln'.out, hob1.1, by have := hob1.2.1; omega, hob1.2.2.1, hob1.2.2.2⟩
            clear hob1
            go_wp2_with (with_reducible refine wpList_load_at rfl 35 (.tmp 40) rfl Try.underlying35 rfl hsz5 rfl hcel'.out ?_)
            go_roundw
            case rel => exact ⟨i + 1, done, by omega, by go_num, by go_num, hS1 _⟩
            case measure => simp [intOf]; omega
        · have h40' : (40 : Int) ≤ i := by omega
          have hob1 := hob.out
          have hS1 : ∀ A, Hid (StopRel w (wr.alloc A) p (szOf n) k (min (i + 1) 40) done) := fun A => by
            have e1 : min i 40 = 40 := by omega
            have e2 : min (i + 1) 40 = 40 := by omega
            rw [e1] at hob1
            rw [e2]
            exact ⟨d, hm'.out.stay ((Below.refl _ _).alloc (Nat.le_refl _) _), hfl'.out, hln'.out, hob1.1, hob1.2.1, hob1.2.2.1, hob1.2.2.2⟩
          clear hob1
          go_wp2_with (with_reducible refine wpList_load_at rfl 35 (.tmp 40) rfl Try.underlying35 rfl hsz5 rfl hcel'.out ?_)
          go_roundw
          case rel => exact ⟨i + 1, done, by omega, by go_num, by go_num, hS1 _⟩
          case measure => simp [intOf]; omega
    · obtain rfl : os.length = i := by omega
      obtain ⟨d, hm, _⟩ := hr.out.ex
      have hm' := Lib.hid hm
      have hcr := Lib.hid (crash_any p d wr hm.disk (.slice none 0 0) [] ⟨none, 0, rfl, fun _ => rfl, fun a ha => by cases ha⟩)
      clear hm hr hS0
      go_wp2_with (first
        | (go_at_call 17; refine hcr.out.mono ?_; clear hcr; rintro e w5 ⟨rfl, hA, hT⟩; have m5 := Lib.hid (hm'.out.tch hA hT); clear hA hT)
        | (go_at_call 23; refine (dead_any p _ _ m5.out.disk).mono ?_; rintro e w' ⟨rfl, hw⟩; obtain rfl := hw.symm; rw [show (crRes d []).dead = false from rfl]))
      go_ret
      exact ⟨rfl, m5.out.below⟩

set_option maxRecDepth 1000000 in
theorem stops_lifted (os : Os) (started : os.Started) (H : Type) (enc : TypeId × Value → H) :
    ReturnsInHanded {} Try.checked os 8 .any (Rows.diskStopsSpec.pre6 enc Try.prog Try.f8 Rows.diskStopsRow.domain false) (Rows.diskStopsSpec.post enc Try.prog Try.f8 false true false false) := by
  refine returnsInHanded_of_change (C := Try.checked) own started (by kernel_rfl) Try.func8
    (ChangeSpec.witness6 (enc := enc) (C := Try.checked) false ⟨#[], #[.int .i64 0, .slice none 0 0, .int .i64 0], []⟩ 8 (by kernel_rfl) (by kernel_rfl) (by kernel_rfl) (by kernel_rfl)) ?_
  intro W base args ds gs before hval0 hW _ _
  have hval : ∀ (j : Nat) t v, Try.f8.params[j]? = some t → args[j]? = some v → Value.okWide Try.prog W .any base t v := hval0
  have hW' := hW
  obtain ⟨p, q, hA0, hV, rfl, _, _⟩ := hW
  have hA : DataW.TrodAll enc Try.prog W 0 (fun _ => true) true Try.f8.params.toList args.toList ds p := hA0
  rw [Try.params8] at hA hval
  obtain ⟨v0, v1, v2, d0, d1, d2, p0, p1, p2, rfl, rfl, rfl, h0, h1, h2⟩ := trodAll_three hA
  obtain ⟨rfl, rfl⟩ := trodVars_none hV
  obtain ⟨x, rfl, rfl, rfl, wx⟩ := open_int Try.underlying3 (hval 0 3 v0 rfl rfl) h0
  obtain ⟨a0, len0, cap0, rfl⟩ := okWide_slice Try.underlying22 (hval 1 22 v1 rfl rfl)
  obtain ⟨y, rfl, rfl, rfl, wy⟩ := open_int Try.underlying3 (hval 2 3 v2 rfl rfl) h2
  obtain ⟨os', hos⟩ := open_ops ⟨_, _, _, rfl⟩ h1
  refine (stops_any x y _ os' W (i64_of_wf wx) hos).mono fun e W' ⟨he, hb⟩ => ?_
  subst he
  exact ⟨_, rfl, law_post laidOut (of_decide_eq_true (by kernel_rfl)) rfl (by kernel_rfl) Try.underlying4 hW' ⟨rfl, rfl, rfl⟩ hb⟩

set_option maxRecDepth 1000000 in
theorem stops_holds : Rows.DiskStopsSaid :=
  OpenClaim.holds_of_wide 8 Try.f8 rfl rfl rfl rfl rfl rfl rfl ⟨rfl, rfl, rfl, rfl, rfl⟩ rfl rfl rfl rfl rfl (by kernel_rfl) Try.func8 (by kernel_rfl)
    (of_decide_eq_true (by kernel_rfl)) (by unfold Func.isWrapper; first | (rw [if_pos (by decide +kernel)]; kernel_rfl) | (rw [if_neg (by decide +kernel)]; exact ⟨rfl, rfl⟩))
    (fun os started H enc _ => stops_lifted os started H enc)

end Go.Proofs.Ytegiifdmjmfoeaa
