/- The ring as the laws see it: on a disk where nothing is lit, its size, turn, First and entries. -/
import Derived.Test.YtjhnagipagkhiaaGreatRCut
namespace Go.Proofs.YtjhnagipagkhiaaGreat
open Go.RowKit

def tot (es : List (List UInt8)) : Nat := (es.map fun e => secs e.length).sum
theorem tot_nil : tot [] = 0 := rfl
theorem gone_all (es : List (List UInt8)) : gone es es.length = tot es := by unfold gone tot; rw [List.take_length]
theorem tot_snoc (es : List (List UInt8)) (e : List UInt8) : tot (es ++ [e]) = tot es + secs e.length := by unfold tot; simp
theorem tot_drop (es : List (List UInt8)) (m : Nat) : tot (es.drop m) = tot es - gone es m := by
  have h : tot es = gone es m + tot (es.drop m) := by
    unfold tot gone
    conv => lhs; rw [← List.take_append_drop m es]
    rw [List.map_append, List.sum_append]
  omega
theorem len_tot : ∀ es : List (List UInt8), es.length ≤ tot es
  | [] => Nat.le_refl _
  | e :: es => by
    have h := len_tot es
    have h2 := secs_pos e.length
    have h3 : tot (e :: es) = secs e.length + tot es := by unfold tot; simp
    rw [List.length_cons]
    omega
theorem gone_tot (es : List (List UInt8)) (m : Nat) : gone es m ≤ tot es := by rw [← gone_all]; exact gone_mono es m

structure RS (w : World) (rg : Nat) (p : Pl) (n S k T F : Nat) (es : List (List UInt8)) : Prop where
  is : ∃ d x vs note, RgOn w rg p d x vs es note ∧ Sane d n ∧ d.ops ≤ k ∧ x.turn = T ∧ x.size = S ∧ x.first = F ∧ x.used = tot es ∧ x.br = false ∧ x.place < S
  fit : tot es ≤ S
  len : ∀ e ∈ es, e.length ≤ 8000
  room : S + 2 ≤ n

theorem RS.below {w w' : World} {rg : Nat} {p : Pl} {n S k T F : Nat} {es : List (List UInt8)} (h : RS w rg p n S k T F es) (hb : Below w.heap.size w w') : RS w' rg p n S k T F es := by
  obtain ⟨d, x, vs, note, hr, hs⟩ := h.is
  exact ⟨⟨d, x, vs, note, hr.below hb, hs⟩, h.fit, h.len, h.room⟩
theorem RS.lt {w : World} {rg : Nat} {p : Pl} {n S k T F : Nat} {es : List (List UInt8)} (h : RS w rg p n S k T F es) : rg < w.heap.size ∧ ∀ j ∈ p.L, j < rg := by
  obtain ⟨d, x, vs, note, hr, hs⟩ := h.is
  exact ⟨hr.size, hr.low⟩

theorem RS.left {w : World} {rg : Nat} {p : Pl} {n S k T F : Nat} {es : List (List UInt8)} (h : RS w rg p n S k T F es) (hS : S ≤ 1000) :
    Calls Tryz.prog 23 #[.pointer (some ⟨rg, 0, none⟩)] w (fun e w' => e = .returned (.int .i64 (S - tot es : Nat)) ∧ Below w.heap.size w w') := by
  obtain ⟨d, x, vs, note, hr, hs, hk, h1, h2, h3, h4, h5, h6⟩ := h.is
  have hf := h.fit
  rw [← h2, ← h4]
  exact left_any rg x w hr.here (by omega) (by omega)

theorem RS.first {w : World} {rg : Nat} {p : Pl} {n S k T F : Nat} {es : List (List UInt8)} (h : RS w rg p n S k T F es) :
    Calls Tryz.prog 20 #[.pointer (some ⟨rg, 0, none⟩)] w (fun e w' => e = .returned (.int .u64 F) ∧ Below w.heap.size w w') := by
  obtain ⟨d, x, vs, note, hr, hs, hk, h1, h2, h3, h4, h5, h6⟩ := h.is
  rw [← h3]
  exact first_any rg x w hr.here

theorem RS.full {w : World} {rg : Nat} {p : Pl} {n S k T F : Nat} {es : List (List UInt8)} (h : RS w rg p n S k T F es) (hS : S ≤ 1000) (q : Option Addr) (m c : Nat) (hm : m ≤ 8000) (hfull : S - tot es < secs m) :
    Calls Tryz.prog 18 #[.pointer (some ⟨rg, 0, none⟩), .slice q m c] w (fun e w' => e = .returned (.int .i64 6) ∧ Below w.heap.size w w') := by
  obtain ⟨d, x, vs, note, hr, hs, hk, h1, h2, h3, h4, h5, h6⟩ := h.is
  have hf := h.fit
  exact append_full rg p d x vs es note q m c w hr h5 hm (by omega) (by omega) (by omega)

theorem RS.append {w : World} {rg : Nat} {p : Pl} {n S k T F : Nat} {es : List (List UInt8)} (h : RS w rg p n S k T F es) (hS : S ≤ 1000) (hk9 : k ≤ 1000000000) (hT : T ≤ 1000000) (hF : F ≤ 1000000) (q : Option Addr) (m c : Nat) (e : List UInt8) (hm : e.length = m) (hm8 : m ≤ 8000) (hfit : secs m ≤ S - tot es)
    (he : ∀ W, Tch p.L w W → Lib.HoldsBytes W (.slice q m c) e) (hmc : m ≤ c) :
    Calls Tryz.prog 18 #[.pointer (some ⟨rg, 0, none⟩), .slice q m c] w (fun e' w' => e' = .returned (.int .i64 0) ∧ RS w' rg p n S (k + 2000) T F (es ++ [e]) ∧ Up rg p.L w w') := by
  subst hm
  obtain ⟨d, x, vs, note, hr, hs, hk, h1, h2, h3, h4, h5, h6⟩ := h.is
  have hf := h.fit
  have hl := len_tot es
  have hc := hr.count
  have h0 := hs.ops
  obtain ⟨d', hl1, hs', ho'⟩ := hs.lay (nxtL x.turn (x.first + x.el) x.size x.place x.used e) (nxt_in (n := n) (by omega) (by omega) (by have := h.room; omega)) []
  have hlay : layAll d [nxtL x.turn (x.first + x.el) x.size x.place x.used e] = (0, d') := hl1
  refine (append_ok rg p d d' x vs es note q c e w hr h5 hm8 (by omega) (by omega) (by omega) (by omega) (by omega) (by omega) (by omega) he hmc h0 (by omega) hlay).mono ?_
  rintro e' w' ⟨rfl, x', v, hr', a1, a2, a3, a4, a5, a6, hu⟩
  have hlen : (nxtL x.turn (x.first + x.el) x.size x.place x.used e).length = secs e.length := by unfold nxtL; rw [List.length_map, List.length_range]
  rw [hlen] at ho'
  have ht := tot_snoc es e
  refine ⟨rfl, ⟨⟨d', x', vs ++ [v], note, hr', hs', by omega, by omega, by omega, by omega, by omega, by rw [a6]; exact h5, by omega⟩, by omega, fun f hf => ?_, h.room⟩, hu⟩
  rcases List.mem_append.1 hf with hf | hf
  · exact h.len f hf
  · rw [List.mem_singleton.1 hf]; exact hm8

theorem RS.cut {w : World} {rg : Nat} {p : Pl} {n S k T F : Nat} {es : List (List UInt8)} (h : RS w rg p n S k T F es) (hS : S ≤ 1000) (hk9 : k ≤ 1000000000) (hT : T ≤ 1000000) (hF : F ≤ 1000000) (m : Nat) (hm : m ≤ es.length) (q : Option Addr) (c : Nat) (note : List UInt8) (nl : Nat) (hnl : note.length = nl) (hn : nl ≤ 32)
    (he : Ent 0 w (.slice q nl c) note) :
    Calls Tryz.prog 19 #[.pointer (some ⟨rg, 0, none⟩), .int .i64 m, .slice q nl c] w (fun e' w' => e' = .returned (.int .i64 0) ∧ RS w' rg p n S (k + 2000) (T + 1) (F + m) (es.drop m) ∧ Up rg p.L w w') := by
  subst hnl
  obtain ⟨d, x, vs, note0, hr, hs, hk, h1, h2, h3, h4, h5, h6⟩ := h.is
  have hf := h.fit
  have hl := len_tot es
  have hc := hr.count
  have h0 := hs.ops
  have hgt := gone_tot es m
  have hpl : wrapAt x.size x.place (gone es m) < S ∨ gone es m = S := by
    rcases Nat.lt_or_ge (gone es m) S with h | h
    · exact .inl (by rw [← h2]; exact wrapAt_lt (by omega) (by omega))
    · exact .inr (by omega)
  have hpl2 : wrapAt x.size x.place (gone es m) < S := by
    rcases hpl with h | h
    · exact h
    · unfold wrapAt; split <;> omega
  obtain ⟨d', hl1, hs', ho'⟩ := hs.lay [(((x.turn + 1) % 2 : Nat), pad (headB (x.turn + 1) x.size (x.first + m) (wrapAt x.size x.place (gone es m)) note))] (fun y hy => by
    rw [List.mem_singleton.1 hy]
    have := h.room
    exact ⟨by show (0 : Int) ≤ (((x.turn + 1) % 2 : Nat) : Int); omega, by show (((x.turn + 1) % 2 : Nat) : Int) < n; omega⟩) []
  have hlay : layAll d [[(((x.turn + 1) % 2 : Nat), pad (headB (x.turn + 1) x.size (x.first + m) (wrapAt x.size x.place (gone es m)) note))]] = (0, d') := hl1
  refine (cut_ok rg p d d' x vs es note0 note m q c w hr h5 (by omega) (by omega) h.len (by rw [gone_all]; omega) (by omega) hn he (by omega) (by omega) (by omega) (by omega) (by omega) h0 (by omega) hlay).mono ?_
  rintro e' w' ⟨rfl, x', hr', a1, a2, a3, a4, a5, a6, hu⟩
  have ht := tot_drop es m
  have ho2 : d'.ops = d.ops + ((1 : Nat) : Int) + 1 := ho'
  refine ⟨rfl, ⟨⟨d', x', vs.drop m, note, hr', hs', by omega, by omega, by omega, by omega, by omega, by rw [a6]; exact h5, by omega⟩, by omega, fun f hf => h.len f (List.mem_of_mem_drop hf), h.room⟩, hu⟩

theorem RS.all {w : World} {rg : Nat} {p : Pl} {n S k T F : Nat} {es : List (List UInt8)} (h : RS w rg p n S k T F es) (hS : S ≤ 1000) :
    Calls Tryz.prog 21 #[.pointer (some ⟨rg, 0, none⟩)] w (fun e w' => (∃ q c, e = .returned (.slice q es.length c)) ∧ Below w.heap.size w w') := by
  obtain ⟨d, x, vs, note, hr, hs, hk, h1, h2, h3, h4, h5, h6⟩ := h.is
  have hl := len_tot es
  have hf := h.fit
  have hc := hr.count
  rw [← hc]
  exact all_any rg p d x vs es note w hr (by omega) h.len

theorem holds_tch {w W : World} {L : List Nat} {q : Option Addr} {n c : Nat} {e : List UInt8} (h : Lib.HoldsBytes w (.slice q n c) e) (hq : ∀ a, q = some a → 0 < e.length → a.block ∉ L) (hT : Tch L w W) : Lib.HoldsBytes W (.slice q n c) e := by
  obtain ⟨q2, c2, he, h1, h2⟩ := h
  cases he
  refine ⟨q, c, rfl, h1, fun a ha i y hy => ?_⟩
  have h3 := h2 a ha i y hy
  have h4 := World.block_lt_of_cell? w _ h3
  rw [add_block] at h4
  rw [World.cell?_of_block (w := w) (by rw [add_block]; exact hT.block _ h4 (hq a ha (by have := (List.getElem?_eq_some_iff.1 hy).1; omega)))]
  exact h3

/-- a byte slice just made, of zeros -/
theorem zeros_ent (w : World) (m : Nat) : Ent 0 (w.alloc (.cells (Array.replicate m (.int .u8 0)) 5)) (.slice (some ⟨w.heap.size, 0, none⟩) m m) (List.replicate m 0) := by
  have hr : RowV 5 (w.alloc (.cells (Array.replicate m (.int .u8 0)) 5)) w.heap.size (List.replicate m (.int .u8 0)) := by
    have h := RowV.made (T := 5) w (List.replicate m (Value.int .u8 0))
    rw [List.toArray_replicate] at h
    exact h
  refine ⟨⟨some ⟨w.heap.size, 0, none⟩, m, by rw [List.length_replicate], (fun h => by cases h), fun a ha i y hy => ?_⟩, _, _, _, rfl, fun a ha => ?_⟩
  · cases ha
    have h1 := List.getElem?_eq_some_iff.1 hy
    obtain ⟨h2, h3⟩ := h1
    rw [List.length_replicate] at h2
    rw [List.getElem_replicate] at h3
    subst h3
    rw [add_flat, hr.cell i, List.getElem?_replicate, if_pos h2]
    rfl
  · cases ha
    exact ⟨Nat.zero_le _, hr.lt, Nat.le_refl _⟩

end Go.Proofs.YtjhnagipagkhiaaGreat
