/- DiskHides, its numbers: a disk that is synced, read, written twice at one sector, read, crashed and read. No program here. -/
import Derived.Test.YtnjandmlhncapaaPlayed
namespace Go.Proofs.Ytnjandmlhncapaa
open Go.RowKit

def hd1 (d : Dk) : Dk := dSettle (dDone d) fun _ => true
def hd2 (d : Dk) : Dk := dRead (hd1 d)
def hd3 (d : Dk) (i : Int) (b : List Int) : Dk := dWrite (dDone (hd2 d)) i b
def hd4 (d : Dk) (i : Int) (b c : List Int) : Dk := dWrite (dDone (hd3 d i b)) i c
def hd5 (d : Dk) (i : Int) (b c : List Int) : Dk := dRead (hd4 d i b c)
def hd6 (d : Dk) (i : Int) (b c : List Int) (ks : List Bool) : Dk := crRes (hd5 d i b c) ks
def hd7 (d : Dk) (i : Int) (b c : List Int) (ks : List Bool) : Dk := dRead (hd6 d i b c ks)

theorem Calm.no_al {d : Dk} {n : Nat} (h : Calm d n) : hit d.al d.an = false := by simp [hit, h.al]
theorem Calm.no_fl {d : Dk} {n : Nat} (h : Calm d n) : hit d.fl d.fn = false := by simp [hit, h.fl]
theorem Calm.why {d : Dk} {n : Nat} (h : Calm d n) {i : Int} (h0 : 0 ≤ i) (h1 : i < n) : why d 2 i = 0 := by
  unfold Go.Proofs.Ytnjandmlhncapaa.why
  rw [if_neg (by rw [h.dead]; simp), if_neg (fun hn => hn.2 ⟨h0, by rw [h.len]; exact h1⟩)]
theorem Calm.rd {d : Dk} {n : Nat} (h : Calm d n) {i : Int} (h0 : 0 ≤ i) (h1 : i < n) : rdRes d i = ((d.says i, 0), dRead d) := by
  unfold rdRes
  rw [h.why h0 h1, if_neg (by decide), if_neg (by rw [h.no_fl]; decide)]
theorem Calm.wr {d : Dk} {n : Nat} (h : Calm d n) {i : Int} (h0 : 0 ≤ i) (h1 : i < n) (b : List Int) : wrRes d i b = (0, dWrite (dDone d) i b) := by
  unfold wrRes
  rw [h.why h0 h1, if_neg (by decide), if_neg (by rw [h.no_al]; decide), if_neg (by rw [h.no_fl]; decide)]
theorem Calm.sy {d : Dk} {n : Nat} (h : Calm d n) : syRes d = (0, hd1 d) := by
  unfold syRes hd1
  rw [if_neg (by rw [h.dead]; decide), if_neg (by rw [h.no_al]; decide), if_neg (by rw [h.no_fl]; decide)]

theorem calm1 {d : Dk} {n : Nat} (h : Calm d n) : Calm (hd1 d) n := by
  refine ⟨h.dead, h.al, h.fl, ?_⟩
  show (sett _ _ _ _).2.length = n
  rw [sett_len]; exact h.len
theorem calm2 {d : Dk} {n : Nat} (h : Calm d n) : Calm (hd2 d) n := ⟨(calm1 h).dead, (calm1 h).al, (calm1 h).fl, (calm1 h).len⟩
theorem calm3 {d : Dk} {n : Nat} (h : Calm d n) (i : Int) (b : List Int) : Calm (hd3 d i b) n := ⟨(calm2 h).dead, (calm2 h).al, (calm2 h).fl, (calm2 h).len⟩
theorem calm4 {d : Dk} {n : Nat} (h : Calm d n) (i : Int) (b c : List Int) : Calm (hd4 d i b c) n := ⟨(calm3 h i b).dead, (calm3 h i b).al, (calm3 h i b).fl, (calm3 h i b).len⟩
theorem calm5 {d : Dk} {n : Nat} (h : Calm d n) (i : Int) (b c : List Int) : Calm (hd5 d i b c) n := ⟨(calm4 h i b c).dead, (calm4 h i b c).al, (calm4 h i b c).fl, (calm4 h i b c).len⟩
theorem calm6 {d : Dk} {n : Nat} (h : Calm d n) (i : Int) (b c : List Int) (ks : List Bool) : Calm (hd6 d i b c ks) n := by
  refine ⟨rfl, rfl, rfl, ?_⟩
  show (sett _ _ _ _).2.length = n
  rw [sett_len]; exact (calm5 h i b c).len

theorem cache4 (d : Dk) (i : Int) (b c : List Int) : (hd4 d i b c).cache = fun j => if j = i then some c else none := by
  funext j
  show upd (upd (fun _ => none) i b) i c j = _
  unfold upd
  by_cases hj : j = i
  · rw [if_pos hj, if_pos hj]
  · rw [if_neg hj, if_neg hj, if_neg hj]

theorem pend_one {d : Dk} (hG : Good d) {i : Int} {c : List Int} (hc : d.cache = fun j => if j = i then some c else none) : d.pend = [i] := by
  refine Rising.unique ?_ (Dk.rising hG)
  refine ⟨List.pairwise_singleton _ _, fun j => ?_⟩
  rw [cf_some, hc, List.mem_singleton]
  by_cases hj : j = i
  · simp [hj]
  · simp [hj]

theorem says1 (d : Dk) (i : Int) : (hd1 d).says i = (hd1 d).hold i := rfl
theorem says4 (d : Dk) (i : Int) (b c : List Int) : (hd4 d i b c).says i = c := by
  unfold Dk.says
  rw [cache4]
  simp

theorem says6 {d : Dk} {n : Nat} (h : Calm d n) {i : Int} (h0 : 0 ≤ i) (h1 : i < n) (b c : List Int) (ks : List Bool) (hG : Good (hd5 d i b c)) :
    (hd6 d i b c ks).says i = if keepOf ks 0 = true then c else (hd1 d).hold i := by
  have hp : (hd5 d i b c).pend = [i] := pend_one hG (cache4 d i b c)
  have hl : i.toNat < (hd5 d i b c).held.length := by rw [(calm5 h i b c).len]; omega
  have hcc : ((hd5 d i b c).cache i).getD [] = c := by
    rw [show (hd5 d i b c).cache = _ from cache4 d i b c]
    simp
  show (((sett (keepOf ks) (hd5 d i b c).cache (hd5 d i b c).held (hd5 d i b c).pend).2)[i.toNat]?).getD [] = _
  rw [hp]
  unfold sett
  rw [List.foldl_cons, List.foldl_nil]
  unfold stp
  rw [hcc]
  by_cases hk : keepOf ks 0 = true
  · rw [if_pos hk, if_pos hk, List.getElem?_set_self hl]
    rfl
  · rw [if_neg hk, if_neg hk]
    rfl

end Go.Proofs.Ytnjandmlhncapaa
