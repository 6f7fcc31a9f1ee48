/- played: a disk on which Writes, Reads and Syncs were done, none of which failed. -/
import Derived.Test.YtnjandmlhncapaaWakes
namespace Go.Proofs.Ytnjandmlhncapaa
open Go.RowKit

/-- the power is there, and nothing is set to strike -/
structure Calm (d : Dk) (n : Nat) : Prop where
  dead : d.dead = false
  al : d.al = false
  fl : d.fl = false
  len : d.held.length = n

theorem sett_held (kp : Nat → Bool) (d : Dk) : (sett kp d.cache d.held d.pend).2.length = d.held.length := sett_len _ _ _ _

theorem calm_run {d : Dk} {n : Nat} (h : Calm d n) (o : OpV) (hk : kd o < 6) : Calm (runRes d o).2 n ∧ ((runRes d o).2.ops = d.ops ∨ (runRes d o).2.ops = d.ops + 1) := by
  have hh : ∀ x, hit d.al x = false := fun x => by simp [hit, h.al]
  have hf : ∀ x, hit d.fl x = false := fun x => by simp [hit, h.fl]
  have hb := burnt
  have e6 : kd o ≠ 6 := by omega
  have e7 : kd o ≠ 7 := by omega
  have e8 : kd o ≠ 8 := by omega
  unfold runRes
  by_cases c4 : kd o = 4
  · rw [if_pos c4]
    unfold rdRes
    split
    · exact ⟨h, .inl rfl⟩
    · rw [if_neg (by rw [hf]; decide)]
      exact ⟨⟨h.dead, h.al, h.fl, h.len⟩, .inr rfl⟩
  · rw [if_neg c4]
    by_cases c5 : kd o = 5
    · rw [if_pos c5]
      unfold syRes
      rw [if_neg (by rw [h.dead]; decide), if_neg (by rw [hh]; decide), if_neg (by rw [hf]; decide)]
      refine ⟨⟨h.dead, h.al, h.fl, ?_⟩, .inr rfl⟩
      show (sett _ _ _ _).2.length = n
      rw [sett_len]; exact h.len
    · rw [if_neg c5, if_neg e6, if_neg e7, if_neg e8]
      unfold wrRes
      split
      · exact ⟨h, .inl rfl⟩
      · rw [if_neg (by rw [hh]; decide), if_neg (by rw [hf]; decide)]
        exact ⟨⟨h.dead, h.al, h.fl, h.len⟩, .inr rfl⟩

structure PlayRel (w W : World) (p : Pl) (n : Nat) (i : Nat) : Prop where
  ex : ∃ d, Mine w W p d ∧ Calm d n ∧ 0 ≤ d.ops ∧ d.ops ≤ i ∧ d.ops ≤ 50

theorem PlayRel.alloc {w W : World} {p : Pl} {n i : Nat} (h : PlayRel w W p n i) (A : Obj) : PlayRel w (W.alloc A) p n i := by
  obtain ⟨d, h1, h2⟩ := h.ex
  exact ⟨d, h1.stay ((Below.refl _ _).alloc (Nat.le_refl _) _), h2⟩

set_option maxRecDepth 100000 in
set_option maxHeartbeats 4000000 in
theorem played_any (n : Int) (v : Value) (os : List OpV) (w : World) (hn : I64 n) (hv : IsOps w v os) :
    Calls Try.prog 24 #[.int .i64 n, v] w (fun e w' => ∃ p d, e = .returned (.tuple #[ptr p, .bool true]) ∧ Mine w w' p d ∧ Calm d (szOf n) ∧ 0 ≤ d.ops ∧ d.ops ≤ 50) := by
  have hsz := szOf_le n
  obtain ⟨q, c, rfl, hq0, hq1⟩ := hv.shape
  have hv0 := Lib.hid hv
  have hol : os.length ≤ 9223372036854775807 := by have := hv.len; unfold maxLen at this; omega
  clear hv
  have hq0' := Lib.hid hq0
  have hq1' := Lib.hid hq1
  clear hq0 hq1
  go_enter Try.func24, Try.ntmps24
  go_wp2_with (first
    | (go_at_call 11; refine (size_any n _ hn).mono ?_; rintro e w' ⟨rfl, hw⟩; obtain rfl := hw.symm)
    | (go_at_call 10; refine (new_any (szOf n) _ hsz.1 (by omega)).mono ?_; rintro e w1 ⟨p, rfl, hA, hB, hL⟩
       have m0 : Hid (Mine w w1 p (dNew (szOf n))) := ⟨hA, hB, hL⟩
       clear hA hB hL))
  have hP0 : Hid (PlayRel w w1 p (szOf n) 0) := ⟨dNew (szOf n), m0.out, ⟨rfl, rfl, rfl, by simp [dNew]⟩, Int.le_refl _, Int.le_refl _, by show (0 : Int) ≤ 50; decide⟩
  clear m0
  go_loopw [20] (fun v20 wr => ∃ i : Nat, i ≤ os.length ∧ v20 = .int .i64 i ∧ Hid (PlayRel w wr p (szOf n) i)) (fun v20 _ => os.length - (intOf v20).toNat)
  case atStart => exact ⟨0, by omega, by go_num, hP0⟩
  case round =>
    obtain ⟨i, hi, rfl, hr⟩ := hrel
    by_cases hlt : i < os.length
    · obtain ⟨d, hm, hc, ho0, ho1, ho2⟩ := hr.out.ex
      have hx := List.getElem?_eq_getElem hlt
      obtain ⟨o, hoe⟩ : ∃ o, os[i] = o := ⟨_, rfl⟩
      rw [hoe] at hx
      cases q with
      | none => rw [hq0'.out rfl] at hlt; simp at hlt
      | some a =>
        have hin : (i : Int) < os.length := by omega
        have hm' := Lib.hid hm
        have hca := Lib.hid hc
        have hop := Lib.hid ((hv0.out.each o (List.mem_of_getElem? hx)).below (hm.below) (Nat.le_refl _))
        have hcel : ∀ j x, o.cells[j]? = some x → wr.cell? ((a.add (i * 5)).add j) = some x := fun j x hj => by
          rw [Addr.add_add]
          exact cell_keeps hm.below (Nat.le_refl _) (hq1'.out a rfl i o hx j x hj)
        have hcel' := Lib.hid hcel
        have hob := Lib.hid (And.intro ho0 (And.intro ho1 ho2))
        unfold OpV.cells at hcel'
        have hsz5 : (Try.prog.info? 35).map (·.size) = some [Value.int .i64 o.kind, .int .i64 o.pos, .int .i64 o.num, .int .u8 o.byte, o.kv].length := by kernel_rfl
        clear hm hc ho0 ho1 ho2 hcel hx hr hP0 hoe
        have hrun := Lib.hid (run_any p d)
        have hcr := fun hk => Lib.hid (calm_run hca.out o hk)
        obtain ⟨kq, kc, hkv, hkr⟩ := hop.out.keep
        clear hkr
        obtain ⟨kind, pos, num, byte, ks, kv⟩ := o
        simp only at hkv hcel' hsz5
        subst hkv
        by_cases h50 : i < 50
        · have h50' : (i : Int) < 50 := by omega
          by_cases hk : kd ⟨kind, pos, num, byte, ks, .slice kq ks.length kc⟩ < 6
          · have hk' : (IntKind.u64.wrap kind).tmod 9 < 6 := by rw [show (IntKind.u64.wrap kind).tmod 9 = _ from kd_eq ⟨kind, pos, num, byte, ks, .slice kq ks.length kc⟩]; exact hk
            go_wp2_with (first
              | (with_reducible refine wpList_load_at rfl 35 (.tmp 23) rfl Try.underlying35 rfl hsz5 rfl hcel'.out ?_)
              | (go_at_call 13
                 refine (hrun.out _ (hm'.out.disk.alloc _) ⟨kind, pos, num, byte, ks, .slice kq ks.length kc⟩ (hop.out.below ((Below.refl _ _).alloc (Nat.le_refl _) _) (Nat.le_refl _)) hob.out.1 (by have := hob.out; omega)).mono ?_
                 rintro e w5 ⟨rfl, hA, hT⟩
                 have hP1 : Hid (PlayRel w w5 p (szOf n) (i + 1)) := by
                   have hq := hcr hk
                   have hb := hob.out
                   exact ⟨_, (hm'.out.stay ((Below.refl _ _).alloc (Nat.le_refl _) _)).tch hA hT, hq.out.1, by rcases hq.out.2 with e | e <;> omega, by rcases hq.out.2 with e | e <;> omega, by rcases hq.out.2 with e | e <;> omega⟩
                 clear hA hT))
            go_roundw
            case rel => exact ⟨i + 1, by omega, by go_num, hP1⟩
            case measure => simp [intOf]; omega
          · have hk' : 6 ≤ (IntKind.u64.wrap kind).tmod 9 := by rw [show (IntKind.u64.wrap kind).tmod 9 = _ from kd_eq ⟨kind, pos, num, byte, ks, .slice kq ks.length kc⟩]; omega
            have hP1 : ∀ A, Hid (PlayRel w (wr.alloc A) p (szOf n) (i + 1)) := fun A => by
              have hb := hob.out
              exact ⟨d, hm'.out.stay ((Below.refl _ _).alloc (Nat.le_refl _) _), hca.out, hb.1, by omega, hb.2.2⟩
            go_wp2_with (first
              | (with_reducible refine wpList_load_at rfl 35 (.tmp 23) rfl Try.underlying35 rfl hsz5 rfl hcel'.out ?_))
            go_roundw
            case rel => exact ⟨i + 1, by omega, by go_num, hP1 _⟩
            case measure => simp [intOf]; omega
        · have h50' : (50 : Int) ≤ i := by omega
          have hP1 : ∀ A, Hid (PlayRel w (wr.alloc A) p (szOf n) (i + 1)) := fun A => by
            have hb := hob.out
            exact ⟨d, hm'.out.stay ((Below.refl _ _).alloc (Nat.le_refl _) _), hca.out, hb.1, by omega, hb.2.2⟩
          go_wp2_with (first
            | (with_reducible refine wpList_load_at rfl 35 (.tmp 23) rfl Try.underlying35 rfl hsz5 rfl hcel'.out ?_))
          go_roundw
          case rel => exact ⟨i + 1, by omega, by go_num, hP1 _⟩
          case measure => simp [intOf]; omega
    · obtain rfl : os.length = i := by omega
      obtain ⟨d, hm, hc, ho0, ho1, ho2⟩ := hr.out.ex
      have hm' := Lib.hid (And.intro hm (And.intro hc (And.intro ho0 ho2)))
      clear hm hc ho0 ho1 ho2 hr hP0
      go_wp2
      go_returns
      exact ⟨p, d, rfl, hm'.out.1, hm'.out.2.1, hm'.out.2.2.1, hm'.out.2.2.2⟩

end Go.Proofs.Ytnjandmlhncapaa
