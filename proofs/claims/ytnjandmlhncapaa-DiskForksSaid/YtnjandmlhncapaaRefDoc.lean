/- Read, Write, Sync and Crash of the document's own disk, told by what the program's disk does. -/
import Derived.Test.YtnjandmlhncapaaTwinP
namespace Go.Proofs.Ytnjandmlhncapaa
open Go.RowKit

/-- the document's own disk as it lies there, the same as a disk of the program -/
structure Doc (w : World) (q : Option Addr) (c : Nat) (S : List Sc) (d : Dk) (ops ar fl : Int) (dead : Bool) : Prop where
  holds : HoldsE w (.slice q S.length c) (S.map Sc.cells)
  low : ∀ a, q = some a → a.block < w.heap.size
  tw : Tw d S ops ar fl dead
theorem holdsE_kept {w w' : World} {q : Option Addr} {n c : Nat} {L : List (List Value)} (h : HoldsE w (.slice q n c) L) (hb : ∀ a, q = some a → w'.heap[a.block]? = w.heap[a.block]?) : HoldsE w' (.slice q n c) L := by
  obtain ⟨q', c', he, h0, h1⟩ := h
  refine ⟨q', c', he, h0, fun a ha j x hx => ?_⟩
  have hq : q = q' := by simp only [Value.slice.injEq] at he; exact he.1
  have hblk : (a.add j).block = a.block := by unfold Addr.add; split <;> rfl
  rw [World.cell?_of_block (w := w) (by rw [hblk]; exact hb a (hq.trans ha))]
  exact h1 a ha j x hx
theorem Doc.kept {w w' : World} {q : Option Addr} {c : Nat} {S : List Sc} {d : Dk} {ops ar fl : Int} {dead : Bool} (h : Doc w q c S d ops ar fl dead) (hb : ∀ a, q = some a → w'.heap[a.block]? = w.heap[a.block]?) (hs : w.heap.size ≤ w'.heap.size) : Doc w' q c S d ops ar fl dead := ⟨holdsE_kept h.holds hb, fun a ha => Nat.lt_of_lt_of_le (h.low a ha) hs, h.tw⟩
theorem Doc.below {w w' : World} {q : Option Addr} {c : Nat} {S : List Sc} {d : Dk} {ops ar fl : Int} {dead : Bool} (h : Doc w q c S d ops ar fl dead) (hb : Below w.heap.size w w') : Doc w' q c S d ops ar fl dead := h.kept (fun a ha => hb.block _ (h.low a ha)) hb.size

def DocPost (w : World) (q0 : Option Addr) (d : Dk) (f : Value → Ending) (e : Ending) (w' : World) : Prop :=
  ∃ q c S ops ar fl dead, e = f (.agg #[.slice q (List.length S) c, .int .i64 ops, .int .i64 ar, .int .i64 fl, .bool dead]) ∧ Doc w' q c S d ops ar fl dead ∧ Below w.heap.size w w' ∧ (q = q0 ∨ ∀ a, q = some a → w.heap.size ≤ a.block)

theorem why_dead {d : Dk} (h : d.dead = true) (i : Int) : why d 2 i = 9 := by unfold why; rw [if_pos ⟨h, by decide⟩]
theorem why_off {d : Dk} (h : d.dead = false) {i : Int} (hr : ¬ (0 ≤ i ∧ i < d.held.length)) : why d 2 i = 2 := by unfold why; rw [if_neg (by rw [h]; simp), if_pos ⟨rfl, hr⟩]
theorem why_on {d : Dk} (h : d.dead = false) {i : Int} (hr : 0 ≤ i ∧ i < d.held.length) : why d 2 i = 0 := by unfold why; rw [if_neg (by rw [h]; simp), if_neg (fun hn => hn.2 hr)]

structure Room (d : Dk) : Prop where
  good : Good d
  h0 : 0 ≤ d.ops
  h1 : d.ops < 4611686018427387904
theorem Room.al0 {d : Dk} (h : Room d) : -4611686018427387904 < fz d.al d.an := by have := fz_low (lit := d.al) (n := d.an) (fun e => (h.good.armed e).1); omega
theorem Room.al1 {d : Dk} (h : Room d) : fz d.al d.an < 9223372036854775808 := fz_high (fun e => (h.good.armed e).2)
theorem Room.fl0 {d : Dk} (h : Room d) : -4611686018427387904 < fz d.fl d.fn := by have := fz_low (lit := d.fl) (n := d.fn) (fun e => (h.good.fails e).1); omega
theorem Room.fl1 {d : Dk} (h : Room d) : fz d.fl d.fn < 9223372036854775808 := fz_high (fun e => (h.good.fails e).2)

theorem begins_dead {d : Dk} (h : Room d) (ha : hit d.al d.an = true) (q : Option Addr) (n c : Nat) : Begins q n c d.ops (fz d.al d.an) (fz d.fl d.fn) false 0 (bFail (fz d.fl d.fn)) true 9 := by
  have hb := begins_of q n c d.ops (fz d.al d.an) (fz d.fl d.fn) false h.h0 h.h1 h.al1 h.al0 h.fl1 h.fl0
  rw [fz_hit ha] at hb ⊢
  exact hb
theorem begins_fail {d : Dk} (h : Room d) (ha : hit d.al d.an = false) (hf : hit d.fl d.fn = true) (q : Option Addr) (n c : Nat) : Begins q n c d.ops (fz d.al d.an) (fz d.fl d.fn) false (fz d.al d.an) (-1) false 8 := by
  have hb := begins_of q n c d.ops (fz d.al d.an) (fz d.fl d.fn) false h.h0 h.h1 h.al1 h.al0 h.fl1 h.fl0
  have hn := fz_not ha
  rw [fz_hit hf] at hb ⊢
  have h1 : bArmed (fz d.al d.an) 0 false = fz d.al d.an := by unfold bArmed; rw [if_neg (by simp)]
  have h2 : bDead false (fz d.al d.an) false = false := by unfold bDead; rw [if_neg (by simp [hn])]
  have h3 : bErr (fz d.al d.an) 0 false = 8 := by unfold bErr; rw [if_neg (by simp [hn]), if_pos rfl]
  have h4 : bFail 0 = -1 := rfl
  rw [h1, h2, h3, h4] at hb
  exact hb
theorem begins_done {d : Dk} (h : Room d) (ha : hit d.al d.an = false) (hf : hit d.fl d.fn = false) (q : Option Addr) (n c : Nat) : Begins q n c d.ops (fz d.al d.an) (fz d.fl d.fn) false (fz d.al (burnt d.al d.an)) (fz d.fl (burnt d.fl d.fn)) false 0 := by
  have hb := begins_of q n c d.ops (fz d.al d.an) (fz d.fl d.fn) false h.h0 h.h1 h.al1 h.al0 h.fl1 h.fl0
  have hn := fz_not ha
  have hm := fz_not hf
  have h1 : bArmed (fz d.al d.an) (fz d.fl d.fn) false = fz d.al (burnt d.al d.an) := by
    have hl := fun e => (h.good.armed e).1
    unfold bArmed
    cases e : d.al with
    | false => rw [if_neg (by unfold fz; simp)]; rfl
    | true =>
      rw [e] at hn
      have := hl e
      unfold fz burnt at *
      simp only [if_true] at *
      rw [if_pos ⟨trivial, by omega, hm⟩]
  have h2 : bDead false (fz d.al d.an) false = false := by unfold bDead; rw [if_neg (by simp [hn])]
  have h3 : bErr (fz d.al d.an) (fz d.fl d.fn) false = 0 := by unfold bErr; rw [if_neg (by simp [hn]), if_neg hm]
  rw [h1, h2, h3, fz_burn hf (fun e => (h.good.fails e).1)] at hb
  exact hb

theorem read_doc {w : World} {q : Option Addr} {c : Nat} {S : List Sc} {d : Dk} {ops ar fl : Int} {dead : Bool} (hd : Doc w q c S d ops ar fl dead) (hR : Room d) (i : Int) :
    Calls Try.prog 35 #[.agg #[.slice q S.length c, .int .i64 ops, .int .i64 ar, .int .i64 fl, .bool dead], .int .i64 i] w (DocPost w q (rdRes d i).2 (fun v => .returned (.tuple #[v, agg (rdRes d i).1.1, .int .i64 (rdRes d i).1.2]))) := by
  obtain ⟨hv, hlow, hT⟩ := hd
  have hde := hT.dead
  obtain rfl := hT.ops
  cases dead with
  | true =>
    have e : rdRes d i = ((z64, 9), d) := by unfold rdRes; rw [why_dead hde.symm, if_pos (by decide)]
    rw [e]
    refine (rread_dead q S.length c d.ops ar fl i w).mono ?_
    rintro e w' ⟨rfl, hb⟩
    exact ⟨q, c, S, d.ops, ar, fl, true, rfl, ⟨holdsE_below hv hb (Nat.le_refl _), fun a ha => Nat.lt_of_lt_of_le (hlow a ha) hb.size, hT⟩, hb, .inl rfl⟩
  | false =>
    have hdd : d.dead = false := hde.symm
    obtain ⟨rfl, rfl⟩ := hT.fuse hdd
    have hl := hT.secs.1
    by_cases hr : 0 ≤ i ∧ i < d.held.length
    · obtain ⟨k, rfl⟩ : ∃ k : Nat, i = k := ⟨i.toNat, by omega⟩
      have hk : k < d.held.length := by omega
      cases hh : hit d.fl d.fn with
      | true =>
        have e : rdRes d k = ((z64, 8), dFail d) := by unfold rdRes; rw [why_on hdd hr, if_neg (by decide), if_pos hh]
        rw [e]
        have hc := rread_fail q S.length c d.ops (fz d.al d.an) (k : Int) w (by rw [hl]; exact hr) hR.h0 hR.h1 hR.al1 hR.al0
        rw [← fz_hit hh] at hc
        refine hc.mono ?_
        rintro e w' ⟨rfl, hb⟩
        exact ⟨q, c, S, d.ops + 1, _, -1, false, rfl, ⟨holdsE_below hv hb (Nat.le_refl _), fun a ha => Nat.lt_of_lt_of_le (hlow a ha) hb.size, ⟨hT.secs.same rfl rfl, rfl, hde, fun _ => ⟨rfl, rfl⟩⟩⟩, hb, .inl rfl⟩
      | false =>
        have e : rdRes d k = ((d.says k, 0), dRead d) := by unfold rdRes; rw [why_on hdd hr, if_neg (by decide), if_neg (by rw [hh]; decide)]
        rw [e]
        obtain ⟨cc, hS, hB, _⟩ := hT.secs.2 k hk
        have hs := hT.secs.says hk hS
        have hc := rread_ok q S.length c d.ops (fz d.al d.an) (fz d.fl d.fn) k (S.map Sc.cells) (bl (d.hold k)) cc (d.cache k).isSome w hv (each_ok (hT.secs.ok hR.good)) (by rw [hl]; exact hk) (by rw [List.getElem?_map, hS]; rfl) (blk_bl (Dk.hold_len hR.good hr.1 hr.2)) hB (fz_not hh) hR.h0 hR.h1 hR.al1 hR.al0 hR.fl1 hR.fl0
        simp only at hs
        rw [hs, fz_burn hh (fun e => (hR.good.fails e).1)] at hc
        refine hc.mono ?_
        rintro e w' ⟨rfl, hb⟩
        exact ⟨q, c, S, d.ops + 1, _, _, false, rfl, ⟨holdsE_below hv hb (Nat.le_refl _), fun a ha => Nat.lt_of_lt_of_le (hlow a ha) hb.size, ⟨hT.secs.same rfl rfl, rfl, hde, fun _ => ⟨rfl, rfl⟩⟩⟩, hb, .inl rfl⟩
    · have e : rdRes d i = ((z64, 2), d) := by unfold rdRes; rw [why_off hdd hr, if_pos (by decide)]
      rw [e]
      refine (rread_arg q S.length c d.ops _ _ i w (by rw [hl]; exact hr)).mono ?_
      rintro e w' ⟨rfl, hb⟩
      exact ⟨q, c, S, d.ops, _, _, false, rfl, ⟨holdsE_below hv hb (Nat.le_refl _), fun a ha => Nat.lt_of_lt_of_le (hlow a ha) hb.size, hT⟩, hb, .inl rfl⟩

theorem write_doc {w : World} {q : Option Addr} {c : Nat} {S : List Sc} {d : Dk} {ops ar fl : Int} {dead : Bool} (hd : Doc w q c S d ops ar fl dead) (hR : Room d) (i : Int) (b : List Int) (hb64 : b.length = 64) :
    Calls Try.prog 37 #[.agg #[.slice q S.length c, .int .i64 ops, .int .i64 ar, .int .i64 fl, .bool dead], .int .i64 i, agg b] w (DocPost w q (wrRes d i b).2 (fun v => .returned (.tuple #[v, .int .i64 (wrRes d i b).1]))) := by
  obtain ⟨hv, hlow, hT⟩ := hd
  have hde := hT.dead
  obtain rfl := hT.ops
  cases dead with
  | true =>
    have e : wrRes d i b = (9, d) := by unfold wrRes; rw [why_dead hde.symm, if_pos (by decide)]
    rw [e]
    refine (rwrite_dead q S.length c d.ops ar fl i (bl b) w).mono ?_
    rintro e w' ⟨rfl, hb⟩
    exact ⟨q, c, S, d.ops, ar, fl, true, rfl, ⟨holdsE_below hv hb (Nat.le_refl _), fun a ha => Nat.lt_of_lt_of_le (hlow a ha) hb.size, hT⟩, hb, .inl rfl⟩
  | false =>
    have hdd : d.dead = false := hde.symm
    obtain ⟨rfl, rfl⟩ := hT.fuse hdd
    have hl := hT.secs.1
    by_cases hr : 0 ≤ i ∧ i < d.held.length
    · obtain ⟨k, rfl⟩ : ∃ k : Nat, i = k := ⟨i.toNat, by omega⟩
      have hk : k < d.held.length := by omega
      obtain ⟨cc, hS, hB, _⟩ := hT.secs.2 k hk
      have hok : ∀ {ar' fl' er : Int} {dd : Bool} (hbg : Begins q S.length c d.ops (fz d.al d.an) (fz d.fl d.fn) false ar' fl' dd er) (_ : er ≠ 8), Calls Try.prog 37 #[.agg #[.slice q S.length c, .int .i64 d.ops, .int .i64 (fz d.al d.an), .int .i64 (fz d.fl d.fn), .bool false], .int .i64 k, agg b] w (WrPost w S.length ((S.map Sc.cells).set k (secV (bl (d.hold k)) (bl b) true)) (d.ops + 1) ar' fl' dd er) :=
        fun hbg he => rwrite_ok q S.length c d.ops (fz d.al d.an) (fz d.fl d.fn) _ _ _ _ k (S.map Sc.cells) (bl (d.hold k)) cc (bl b) (d.cache k).isSome w hv (each_ok (hT.secs.ok hR.good)) (hT.secs.n hR.good) (by rw [hl]; exact hk) (by rw [List.getElem?_map, hS]; rfl) (blk_bl (Dk.hold_len hR.good hr.1 hr.2)) (blk_bl hb64) hbg he
      have hset : (S.map Sc.cells).set k (secV (bl (d.hold k)) (bl b) true) = (S.set k ⟨bl (d.hold k), bl b, true⟩).map Sc.cells := by rw [List.map_set]; rfl
      have hlen : (S.set k ⟨bl (d.hold k), bl b, true⟩).length = S.length := List.length_set
      have hwr : ∀ (d' : Dk) (_ : d'.held = d.held) (_ : d'.cache = d.cache), Secs (dWrite d' k b) (S.set k ⟨bl (d.hold k), bl b, true⟩) := fun d' e1 e2 => (hT.secs.same e1 e2).write hb64 (by rw [e1]; exact hk) hS
      cases ha : hit d.al d.an with
      | true =>
        have e : wrRes d k b = (9, dWrite (dDead d) k b) := by unfold wrRes; rw [why_on hdd hr, if_neg (by decide), if_pos ha]
        rw [e]
        refine (hok (begins_dead hR ha q S.length c) (by decide)).mono ?_
        rintro e w' ⟨q', c', rfl, ho, hb⟩
        rw [hset] at ho
        have hh := ho.holds.1
        rw [← hlen] at hh ⊢
        exact ⟨q', c', _, d.ops + 1, _, _, true, rfl, ⟨hh, fun a ha => (ho.holds.2.2 a ha).2, ⟨hwr _ rfl rfl, rfl, rfl, fun h => by cases h⟩⟩, hb, .inr fun a ha => (ho.holds.2.2 a ha).1⟩
      | false =>
        cases hf : hit d.fl d.fn with
        | true =>
          have e : wrRes d k b = (8, dFail d) := by unfold wrRes; rw [why_on hdd hr, if_neg (by decide), if_neg (by rw [ha]; decide), if_pos hf]
          rw [e]
          refine (rwrite_fail q S.length c d.ops (fz d.al d.an) (fz d.fl d.fn) (k : Int) _ _ _ (bl b) w (by rw [hl]; exact hr) (begins_fail hR ha hf q S.length c)).mono ?_
          rintro e w' ⟨rfl, hb⟩
          exact ⟨q, c, S, d.ops + 1, _, _, false, rfl, ⟨holdsE_below hv hb (Nat.le_refl _), fun a ha => Nat.lt_of_lt_of_le (hlow a ha) hb.size, ⟨hT.secs.same rfl rfl, rfl, hde, fun _ => ⟨rfl, rfl⟩⟩⟩, hb, .inl rfl⟩
        | false =>
          have e : wrRes d k b = (0, dWrite (dDone d) k b) := by unfold wrRes; rw [why_on hdd hr, if_neg (by decide), if_neg (by rw [ha]; decide), if_neg (by rw [hf]; decide)]
          rw [e]
          refine (hok (begins_done hR ha hf q S.length c) (by decide)).mono ?_
          rintro e w' ⟨q', c', rfl, ho, hb⟩
          rw [hset] at ho
          have hh := ho.holds.1
          rw [← hlen] at hh ⊢
          exact ⟨q', c', _, d.ops + 1, _, _, false, rfl, ⟨hh, fun a ha => (ho.holds.2.2 a ha).2, ⟨hwr _ rfl rfl, rfl, hde, fun _ => ⟨rfl, rfl⟩⟩⟩, hb, .inr fun a ha => (ho.holds.2.2 a ha).1⟩
    · have e : wrRes d i b = (2, d) := by unfold wrRes; rw [why_off hdd hr, if_pos (by decide)]
      rw [e]
      refine (rwrite_arg q S.length c d.ops _ _ i (bl b) w (by rw [hl]; exact hr)).mono ?_
      rintro e w' ⟨rfl, hb⟩
      exact ⟨q, c, S, d.ops, _, _, false, rfl, ⟨holdsE_below hv hb (Nat.le_refl _), fun a ha => Nat.lt_of_lt_of_le (hlow a ha) hb.size, hT⟩, hb, .inl rfl⟩

theorem sync_doc {w : World} {q : Option Addr} {c : Nat} {S : List Sc} {d : Dk} {ops ar fl : Int} {dead : Bool} (hd : Doc w q c S d ops ar fl dead) (hR : Room d) :
    Calls Try.prog 36 #[.agg #[.slice q S.length c, .int .i64 ops, .int .i64 ar, .int .i64 fl, .bool dead]] w (DocPost w q (syRes d).2 (fun v => .returned (.tuple #[v, .int .i64 (syRes d).1]))) := by
  obtain ⟨hv, hlow, hT⟩ := hd
  have hde := hT.dead
  obtain rfl := hT.ops
  cases dead with
  | true =>
    have e : syRes d = (9, d) := by unfold syRes; rw [if_pos hde.symm]
    rw [e]
    refine (rsync_dead q S.length c d.ops ar fl w).mono ?_
    rintro e w' ⟨rfl, hb⟩
    exact ⟨q, c, S, d.ops, ar, fl, true, rfl, ⟨holdsE_below hv hb (Nat.le_refl _), fun a ha => Nat.lt_of_lt_of_le (hlow a ha) hb.size, hT⟩, hb, .inl rfl⟩
  | false =>
    have hdd : d.dead = false := hde.symm
    obtain ⟨rfl, rfl⟩ := hT.fuse hdd
    cases ha : hit d.al d.an with
    | true =>
      have e : syRes d = (9, dDead d) := by unfold syRes; rw [if_neg (by rw [hdd]; decide), if_pos ha]
      rw [e]
      refine (rsync_stop q S.length c d.ops _ _ _ _ 9 _ w (begins_dead hR ha q S.length c) (by decide)).mono ?_
      rintro e w' ⟨rfl, hb⟩
      exact ⟨q, c, S, d.ops + 1, _, _, true, rfl, ⟨holdsE_below hv hb (Nat.le_refl _), fun a ha => Nat.lt_of_lt_of_le (hlow a ha) hb.size, ⟨hT.secs.same rfl rfl, rfl, rfl, fun h => by cases h⟩⟩, hb, .inl rfl⟩
    | false =>
      cases hf : hit d.fl d.fn with
      | true =>
        have e : syRes d = (8, dFail d) := by unfold syRes; rw [if_neg (by rw [hdd]; decide), if_neg (by rw [ha]; decide), if_pos hf]
        rw [e]
        refine (rsync_stop q S.length c d.ops _ _ _ _ 8 _ w (begins_fail hR ha hf q S.length c) (by decide)).mono ?_
        rintro e w' ⟨rfl, hb⟩
        exact ⟨q, c, S, d.ops + 1, _, _, false, rfl, ⟨holdsE_below hv hb (Nat.le_refl _), fun a ha => Nat.lt_of_lt_of_le (hlow a ha) hb.size, ⟨hT.secs.same rfl rfl, rfl, hde, fun _ => ⟨rfl, rfl⟩⟩⟩, hb, .inl rfl⟩
      | false =>
        have e : syRes d = (0, dSettle (dDone d) fun _ => true) := by unfold syRes; rw [if_neg (by rw [hdd]; decide), if_neg (by rw [ha]; decide), if_neg (by rw [hf]; decide)]
        rw [e]
        refine (rsync_ok q c d.ops _ _ _ _ _ S w hv (hT.secs.ok hR.good) (hT.secs.n hR.good) (begins_done hR ha hf q S.length c)).mono ?_
        rintro e w' ⟨q', c', rfl, ho, hb⟩
        have hh := ho.holds.1
        have hlen : (stl (kept true []) 0 S).length = S.length := stl_len _ _ _
        rw [← hlen] at hh ⊢
        have hk : kept true [] = fun _ => true := by funext k; rfl
        exact ⟨q', c', _, d.ops + 1, _, _, false, rfl, ⟨hh, fun a ha => (ho.holds.2.2 a ha).2, ⟨hT.secs.settle hR.good _ (by rw [hk]; rfl) rfl, rfl, hde, fun _ => ⟨rfl, rfl⟩⟩⟩, hb, .inr fun a ha => (ho.holds.2.2 a ha).1⟩

theorem crash_doc {w : World} {q : Option Addr} {c : Nat} {S : List Sc} {d : Dk} {ops ar fl : Int} {dead : Bool} (hd : Doc w q c S d ops ar fl dead) (hG : Good d) {kq : Option Addr} {kc : Nat} {ks : List Bool} (hk : KeepW w (.slice kq ks.length kc) ks) :
    Calls Try.prog 18 #[.agg #[.slice q S.length c, .int .i64 ops, .int .i64 ar, .int .i64 fl, .bool dead], .slice kq ks.length kc] w (DocPost w q (crRes d ks) (fun v => .returned v)) := by
  obtain ⟨hv, hlow, hT⟩ := hd
  refine (rcrash_any q c ops ar fl dead kq kc ks S w hv (hT.secs.ok hG) (hT.secs.n hG) hk).mono ?_
  rintro e w' ⟨q', c', rfl, ho, hb⟩
  have hh := ho.holds.1
  have hlen : (stl (kept false ks) 0 S).length = S.length := stl_len _ _ _
  rw [← hlen] at hh ⊢
  have hkk : kept false ks = keepOf ks := by funext k; simp [kept, keepOf]
  exact ⟨q', c', _, ops, _, _, false, rfl, ⟨hh, fun a ha => (ho.holds.2.2 a ha).2, ⟨hT.secs.settle hG _ (by rw [hkk]; rfl) rfl, hT.ops, rfl, fun _ => ⟨rfl, rfl⟩⟩⟩, hb, .inr fun a ha => (ho.holds.2.2 a ha).1⟩

end Go.Proofs.Ytnjandmlhncapaa
