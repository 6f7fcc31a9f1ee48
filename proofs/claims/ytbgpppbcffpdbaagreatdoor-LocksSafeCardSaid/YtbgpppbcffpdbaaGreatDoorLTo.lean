/- Every call has its answer; how long the rows of a queue may become; run as a law calls it. -/
import Derived.Test.YtbgpppbcffpdbaaGreatDoorLRu
import Derived.Test.YtbgpppbcffpdbaaGreatDoorLFe
import Derived.Test.YtbgpppbcffpdbaaGreatDoorLMu
namespace Go.Proofs.YtbgpppbcffpdbaaGreatDoor
open Go.RowKit

theorem call_tot (L : List QueD) (x : Int) : ∃ e, CallE L x e := by
  by_cases h : ChkOk L
  · rcases Bool.eq_false_or_eq_true (txnB x) with h1 | h1
    · exact ⟨0, .inr (.inr ⟨h, h1, rfl⟩)⟩
    · exact ⟨2, .inr (.inl ⟨h, h1, rfl⟩)⟩
  · exact ⟨180, .inl ⟨h, rfl⟩⟩
theorem askE_tot (L : List QueD) (x : Int) (r : ResD) (m : Int) : ∃ e, AskE L x r m e := by
  obtain ⟨e, he⟩ := call_tot L x
  by_cases h0 : e = 0
  · subst h0
    rcases Bool.eq_false_or_eq_true (resB r) with h1 | h1
    · rcases Bool.eq_false_or_eq_true (modB r.k m) with h2 | h2
      · by_cases h3 : NoW L x L.length
        · exact ⟨0, .inr ⟨he, .inr (.inr ⟨h1, h2, .inr ⟨h3, rfl⟩⟩)⟩⟩
        · exact ⟨181, .inr ⟨he, .inr (.inr ⟨h1, h2, .inl ⟨h3, rfl⟩⟩)⟩⟩
      · exact ⟨2, .inr ⟨he, .inr (.inl ⟨h1, h2, rfl⟩)⟩⟩
    · exact ⟨2, .inr ⟨he, .inl ⟨h1, rfl⟩⟩⟩
  · exact ⟨e, .inl ⟨he, h0⟩⟩
theorem askR_tot (L : List QueD) (x : Int) (r : ResD) (m : Int) : ∃ L' a e, AskR L x r m L' a e := by
  obtain ⟨e, he⟩ := askE_tot L x r m
  by_cases h0 : e = 0
  · subst h0
    exact ⟨(askF L x r m).1, (askF L x r m).2.1, (askF L x r m).2.2, .inr ⟨he, rfl⟩⟩
  · exact ⟨[], 0, e, .inl ⟨he, h0, rfl, rfl⟩⟩
theorem relR_tot (L : List QueD) (x : Int) : ∃ L' g e, RelR L x L' g e := by
  obtain ⟨e, he⟩ := call_tot L x
  by_cases h0 : e = 0
  · subst h0
    exact ⟨_, _, 0, .inr ⟨he, rfl, rfl, rfl⟩⟩
  · exact ⟨[], [], e, .inl ⟨he, h0, rfl, rfl⟩⟩
theorem leaR_tot (L : List QueD) (x : Int) : ∃ L' g e, LeaR L x L' g e := by
  obtain ⟨e, he⟩ := call_tot L x
  by_cases h0 : e = 0
  · subst h0
    cases h1 : wtOf L x with
    | none => exact ⟨[], [], 4, .inr (.inl ⟨he, h1, rfl, rfl, rfl⟩)⟩
    | some d => exact ⟨_, _, 0, .inr (.inr ⟨he, ⟨d, h1⟩, rfl, rfl, rfl⟩)⟩
  · exact ⟨[], [], e, .inl ⟨he, h0, rfl, rfl⟩⟩
theorem runR_tot (L : List QueD) (kd x m : Int) (r : ResD) : ∃ L' wh g er, RunR L kd x m r L' wh g er := by
  by_cases h5 : kindR kd = 5
  · obtain ⟨L', g, er, h⟩ := relR_tot L x
    exact ⟨L', 0, g, er, .inl ⟨h5, h, rfl⟩⟩
  · by_cases h6 : kindR kd = 6
    · obtain ⟨L', g, er, h⟩ := leaR_tot L x
      exact ⟨L', 0, g, er, .inr (.inl ⟨h6, h, rfl⟩)⟩
    · obtain ⟨L', a, er, h⟩ := askR_tot L x r m
      exact ⟨L', a, [], er, .inr (.inr ⟨h5, h6, h, rfl⟩)⟩
theorem run_any (q : Option Addr) (n c : Nat) (V : List QV) (L : List QueD) (kd x m t : Int) (k : Bool) (id : Int) (L' : List QueD) (wh : Int) (g : List Int) (er : Int) (he : RunR L kd x m ⟨t, k, id⟩ L' wh g er) (w : World) (hL : Lay w) (h : LkOn w q n c V L) (hsm : Sm L) (hn : n ≤ 900000) (g0 : 0 ≤ id) (g1 : id < 65536) :
    Calls Tryz.prog 12 #[.agg #[.int .i64 kd, .int .i64 x, .int .i64 m, .int .i64 t, .bool k, .int .u16 id], .agg #[.slice q n c]] w (RunPost L' wh g er w) := by
  rcases he with ⟨h1, h2, rfl⟩ | ⟨h1, h2, rfl⟩ | ⟨h1, h2, h3, rfl⟩
  · exact run_rel q n c V L kd x m t k id L' g er h1 h2 w hL h hsm hn
  · exact run_lea q n c V L kd x m t k id L' g er h1 h2 w hL h hsm hn
  · exact run_ask q n c V L kd x m t k id L' wh er h1 h2 h3 w hL h hsm hn g0 g1

/-- no row of any queue is longer than N -/
def Len (N : Nat) (L : List QueD) : Prop := ∀ d ∈ L, d.hs.length ≤ N ∧ d.ws.length ≤ N
theorem Len.sm {N : Nat} {L : List QueD} (h : Len N L) (hN : N ≤ 100000) : Sm L := fun d hd => ⟨Nat.le_trans (h d hd).1 hN, Nat.le_trans (h d hd).2 hN⟩
theorem few_len (L : List QueD) : Len 20 (fewL L) := fun d hd => by
  unfold fewL at hd
  obtain ⟨e, _, rfl⟩ := List.mem_map.1 hd
  exact ⟨by unfold fewD; exact List.length_take_le _ _, by unfold fewD; exact List.length_take_le _ _⟩
theorem few_n {q : Option Addr} {n c : Nat} {V : List QV} {w : World} {L : List QueD} (h : LkOn w q n c V (fewL L)) : n ≤ 501 := by
  have h1 := h.len
  unfold fewL at h1
  rw [List.length_map, List.length_take] at h1
  omega
theorem lk_ok {q : Option Addr} {n c : Nat} {V : List QV} {w : World} {L : List QueD} (h : LkOn w q n c V L) : ∀ d ∈ L, d.res.ok := fun d hd => by
  obtain ⟨i, hi⟩ := List.mem_iff_getElem?.1 hd
  have h1 := (List.getElem?_eq_some_iff.1 hi).1
  have h2 := h.len
  have h3 := h.sl.len
  exact (h.on i _ d (List.getElem?_eq_getElem (by omega)) hi).ok
theorem grantH_len (hs : List HoldD) (h : HoldD) : (grantH hs h).length ≤ hs.length + 1 := by
  unfold grantH
  split
  · rw [List.length_set]; omega
  · simp only [List.length_append, List.length_cons, List.length_take, List.length_drop]; omega
theorem Len.qOf {N : Nat} {L : List QueD} (h : Len N L) (r : ResD) : (qOf L r).hs.length ≤ N ∧ (qOf L r).ws.length ≤ N := by
  unfold Go.Proofs.YtbgpppbcffpdbaaGreatDoor.qOf
  cases hx : L[posQ L r]? with
  | none => exact ⟨by simp [zeroQ], by simp [zeroQ]⟩
  | some d =>
    by_cases hr : d.res = r
    · simp only [hr, if_true]; exact h d (List.mem_of_getElem? hx)
    · simp only [hr, if_false]; exact ⟨by simp [zeroQ], by simp [zeroQ]⟩
theorem chgL_len {N : Nat} {L : List QueD} (h : Len N L) (r : ResD) (f : QueD → QueD) (hf : ∀ d : QueD, d.hs.length ≤ N → d.ws.length ≤ N → (f d).hs.length ≤ N + 1 ∧ (f d).ws.length ≤ N + 1) : Len (N + 1) (chgL L r f) := fun d hd => by
  have hup : ∀ d ∈ L, d.hs.length ≤ N + 1 ∧ d.ws.length ≤ N + 1 := fun d hd => ⟨Nat.le_succ_of_le (h d hd).1, Nat.le_succ_of_le (h d hd).2⟩
  unfold chgL at hd
  split at hd
  · rcases List.mem_or_eq_of_mem_set hd with hd | rfl
    · exact hup d hd
    · exact hf _ (h.qOf r).1 (h.qOf r).2
  · rcases List.mem_append.1 hd with hd | hd
    · exact hup d (List.mem_of_mem_take hd)
    · rcases List.mem_cons.1 hd with rfl | hd
      · exact hf _ (Nat.zero_le _) (Nat.zero_le _)
      · exact hup d (List.mem_of_mem_drop hd)
theorem askF_len {N : Nat} {L : List QueD} (h : Len N L) {x : Int} {r : ResD} {m : Int} {L' : List QueD} {a : Int} (he : askF L x r m = (L', a, 0)) : Len (N + 1) L' := by
  unfold askF at he
  split at he
  · cases he
    exact fun d hd => ⟨Nat.le_succ_of_le (h d hd).1, Nat.le_succ_of_le (h d hd).2⟩
  · split at he
    · cases he
    · split at he
      · cases he
        exact chgL_len h r _ (fun d h1 h2 => ⟨by have := grantH_len d.hs ⟨(wantE (qOf L r).hs x m).1.x, (wantE (qOf L r).hs x m).1.m⟩; unfold graD; simp only; omega, by unfold graD; simp only; omega⟩)
      · cases he
        exact chgL_len h r _ (fun d h1 h2 => ⟨by unfold linD; simp only; omega, by unfold linD; simp only [List.length_append, List.length_cons, List.length_take, List.length_drop]; omega⟩)
/-- asked and not refused: what comes of it -/
theorem run_asked {L : List QueD} {kd x m : Int} {r : ResD} {L' : List QueD} {wh : Int} {g : List Int} (h5 : kindR kd ≠ 5) (h6 : kindR kd ≠ 6) (h : RunR L kd x m r L' wh g 0) : AskE L x r m 0 ∧ askF L x r m = (L', wh, 0) := by
  rcases h with ⟨h1, _⟩ | ⟨h1, _⟩ | ⟨_, _, h3, _⟩
  · exact absurd h1 h5
  · exact absurd h1 h6
  · rcases h3 with ⟨_, h, _⟩ | h
    · exact absurd rfl h
    · exact h
theorem kind_range (kd : Int) : 0 ≤ kindR kd ∧ kindR kd < 7 := by
  have h : 0 ≤ IntKind.u64.wrap kd := by unfold IntKind.wrap; simp [IntKind.bits, IntKind.signed]; omega
  unfold kindR
  rw [Int.tmod_eq_emod_of_nonneg h]
  omega
end Go.Proofs.YtbgpppbcffpdbaaGreatDoor
