/- The reader of codec: row. -/
import Derived.Test.YtcniolmihpkmmaaKRd
import Derived.Laws.IdiomStrings
namespace Go.Proofs.Ytcniolmihpkmmaa
open Go.RowKit

def zeroR : RowD := ⟨⟨0, 0⟩, 0, ⟨#[]⟩⟩
def rowV (r : RowD) : Value := .agg #[.int .i64 r.key.t, .int .u16 r.key.id, .int .i64 r.val, .string r.note]
def valS (s : St) : Int := IntKind.i64.wrap ((keyS s).num 8)
def lenS (s : St) : Int := ((keyS s).next 8).num 1
def lenT (s : St) : St := ((keyS s).next 8).next 1
/-- what row gives: the row, its error, and what is ahead then -/
def rowP (s : St) : RowD × Int × St :=
  if tabB (keyD s).t = true then
    (if lenS s ≤ 8 then
      (if ((lenT s).next (lenS s)).e = 0 then (⟨keyD s, valS s, ⟨((lenT s).raw (lenS s)).toArray⟩⟩, 0, (lenT s).next (lenS s))
      else (zeroR, ((lenT s).next (lenS s)).e, (lenT s).next (lenS s)))
    else (zeroR, 161, lenT s))
  else (zeroR, 161, keyS s)
def RowRd (s : St) (w : World) (g : Nat) (d : Option Nat) (e : Ending) (w' : World) : Prop :=
  ∃ r er s', rowP s = (r, er, s') ∧ e = .returned (.tuple #[rowV r, .int .i64 er]) ∧ w.grownBy w' (some g) ∧ RdrS w' g d s'

theorem conv_note {w : World} {q : Option Addr} {n c : Nat} {l : List UInt8} (h : Lib.HoldsBytes w (.slice q n c) l) : (convert 33 9 (.slice q n c)).run Try.prog w = .ok (.string ⟨l.toArray⟩) w := by
  obtain ⟨p, cap, he, h1, h2⟩ := h
  cases he
  cases q with
  | none =>
    obtain rfl := h1 rfl
    rw [run_convert_bytes_string (P := Try.prog) w 33 9 5 none _ c Try.underlying33 Try.underlying5 Try.underlying9]
    rfl
  | some a =>
    exact run_convert_bytes_back (P := Try.prog) w 33 9 5 a c l Try.underlying33 Try.underlying5 Try.underlying9 (fun j hj => h2 a rfl j _ (List.getElem?_eq_getElem hj))

set_option maxRecDepth 100000 in
set_option maxHeartbeats 4000000 in
theorem row_rd (g : Nat) (d : Option Nat) (s : St) (w : World) (h : RdrS w g d s) :
    Calls Try.prog 38 #[.agg #[.pointer (some ⟨g, 0, none⟩)]] w (RowRd s w g d) := by
  obtain ⟨W, hW⟩ : ∃ W, (w.alloc (.cells #[.pointer (some ⟨g, 0, none⟩)] 73)).alloc (.cells #[.int .i64 0, .int .u16 0, .int .i64 0, .string ⟨#[]⟩] 42) = W := ⟨_, rfl⟩
  have hbx := Lib.hid (two_boxes (xs := [.pointer (some ⟨g, 0, none⟩)]) (ys := [.int .i64 0, .int .u16 0, .int .i64 0, .string ⟨#[]⟩]) hW)
  have hres : Hid (RowV 42 W (w.heap.size + 1) [.int .i64 0, .int .u16 0, .int .i64 0, .string ⟨#[]⟩]) := by
    have h0 := RowV.made (T := 42) (w.alloc (.cells #[.pointer (some ⟨g, 0, none⟩)] 73)) [.int .i64 0, .int .u16 0, .int .i64 0, .string ⟨#[]⟩]
    show RowV _ _ _ _
    rw [← hW]; simpa using h0
  have hg := h.lt
  have hsrc := Lib.hid h.src
  have hr := Lib.hid (h.below hbx.out.1)
  have hs1 := sizeRd (.pointer (some ⟨g, 0, none⟩))
  have hs0 := sizeRow 0 0 0 ⟨#[]⟩
  have z1 : ∀ v ∈ ([.int .i64 0, .int .u16 0, .int .i64 0, .string ⟨#[]⟩] : List Value), v.oneCell' = true := RowD.one zeroR
  clear h
  go_enter Try.func38, Try.ntmps38
  go_wp2_with (first
    | (with_reducible refine wpList_load_at rfl 73 (.tmp 1) rfl Try.underlying73 rfl hs1 rfl hbx.out.2.1.all ?_))
  clear hW
  refine (key_any g d s W hr.out).mono ?_
  rintro e w1 ⟨rfl, hg1, hr1⟩
  obtain ⟨k0, k1, k2, k3⟩ := keyD_ok s
  obtain ⟨⟨kt, ki⟩, hk⟩ : ∃ k, keyD s = k := ⟨_, rfl⟩
  rw [hk] at k0 k1 k2 k3
  rw [hk]
  have hk' := Lib.hid hk
  have b1 := Lib.hid (hbx.out.2.1.gr hg1 (by omega))
  have s1 := Lib.hid (hres.out.gr hg1 (by omega))
  have gr1 := Lib.hid (Gr.after hbx.out.1 hg1)
  have r1 := Lib.hid hr1
  clear hk hg1 hr1 hres hr
  obtain ⟨W2, hW2⟩ : ∃ W2, w1.alloc (.cells #[.int .i64 kt, .int .u16 ki] 40) = W2 := ⟨_, rfl⟩
  have hb2 := Lib.hid (one_box (xs := [.int .i64 kt, .int .u16 ki]) hW2)
  have hs3 := sizeKey kt ki
  go_wp2_with (first
    | (with_reducible refine wpList_load_at rfl 40 (.tmp 4) rfl Try.underlying40 rfl hs3 rfl hb2.out.2.1.all ?_))
  clear hW2
  refine (tabled_any kt ki W2).mono ?_
  rintro e w3 ⟨rfl, hb3⟩
  have hu3 := Lib.hid (hb2.out.1.trans (hb3.mono hb2.out.1.size))
  have b3 := Lib.hid (b1.out.below hu3.out (Nat.le_refl _))
  have s3 := Lib.hid (s1.out.below hu3.out)
  have gr3 := Lib.hid (Gr.then gr1.out hu3.out)
  have r3 := Lib.hid (r1.out.below hu3.out)
  have hlow : w.heap.size + 2 ≤ w1.heap.size := by
    have h1 := s1.out.lt
    omega
  have y3 := Lib.hid ((hb2.out.2.1.below hb3 (Nat.le_refl _)))
  clear hb3
  obtain ⟨b, hb⟩ : ∃ b, tabB kt = b := ⟨_, rfl⟩
  rw [hb]
  have hb' := Lib.hid hb
  clear hb
  cases b with
  | false =>
    go_wp2_with (first
      | ((with_reducible refine wpList_store_at rfl 42 (.tmp 2) (.tmp 14) rfl (o := 0) rfl rfl s3.out hs0 (Nat.le_refl _) z1 ?_)
         intro w9 h9 hg9
         have q9 := Lib.hid h9
         have hg9' := Lib.hid hg9
         clear h9 hg9))
    have s9 : RowV 42 w9 (w.heap.size + 1) [.int .i64 0, .int .u16 0, .int .i64 0, .string ⟨#[]⟩] := q9.out
    have m0 := s9.cell 0
    have m1 := s9.cell 1
    have m2 := s9.cell 2
    have m3 := s9.cell 3
    simp only [List.getElem?_cons_zero, List.getElem?_cons_succ] at m0 m1 m2 m3
    refine bodyPost_ret (v := .tuple #[rowV zeroR, .int .i64 161]) (by simp [results, Try.results38, go_sem, m0, m1, m2, m3, rowV, zeroR]) rfl ?_
    refine ⟨zeroR, 161, keyS s, ?_, rfl, Gr.own gr3.out hg9'.out (by omega), r3.out.keep hg9'.out (by omega) (fun e => by have := hsrc.out _ e; omega)⟩
    unfold rowP
    rw [if_neg]
    rw [hk'.out]
    show ¬ tabB kt = true
    rw [hb'.out]
    simp
  | true =>
    have c3 := b3.out.cell 0 rfl
    obtain ⟨vv, hvv⟩ : ∃ v, IntKind.i64.wrap ((keyS s).num 8) = v := ⟨_, rfl⟩
    go_wp2_with fail
    refine (rd64 g d (keyS s) w3 r3.out).mono ?_
    rintro e w4 ⟨rfl, hg4, hr4⟩
    have b4 := Lib.hid (b3.out.gr hg4 (by omega))
    have s4 := Lib.hid (s3.out.gr hg4 (by omega))
    have y4 := Lib.hid (y3.out.gr hg4 (by omega))
    have gr4 := Lib.hid (gr3.out.trans hg4)
    have r4 := Lib.hid hr4
    have c4 := b4.out.cell 0 rfl
    clear hg4 hr4 c3
    go_wp2_with fail
    refine (rd8 g d ((keyS s).next 8) w4 r4.out).mono ?_
    rintro e w5 ⟨rfl, hg5, hr5⟩
    have b5 := Lib.hid (b4.out.gr hg5 (by omega))
    have s5 := Lib.hid (s4.out.gr hg5 (by omega))
    have y5 := Lib.hid (y4.out.gr hg5 (by omega))
    have gr5 := Lib.hid (gr4.out.trans hg5)
    have r5 : Hid (RdrS w5 g d (lenT s)) := hr5
    have c5 := b5.out.cell 0 rfl
    have hz := numV1 ((keyS s).next 8).l ((keyS s).next 8).e
    obtain ⟨z, hzz⟩ : ∃ z, ((keyS s).next 8).num 1 = z := ⟨_, rfl⟩
    have hz2 : 0 ≤ z ∧ z < 256 := by rw [← hzz]; exact hz
    obtain ⟨z0, z2⟩ := hz2
    rw [hzz]
    have hzl : Hid (lenS s = z) := hzz
    have hv' : Hid (valS s = vv) := hvv
    clear hg5 hr5 c4 hz hzz hvv
    by_cases h8 : 8 < z
    · have hrp : Hid (rowP s = (zeroR, 161, lenT s)) := by
        show rowP s = _
        unfold rowP
        rw [if_pos (by rw [hk'.out]; exact hb'.out), if_neg (by rw [hzl.out]; omega)]
      go_wp2_with (first
        | ((with_reducible refine wpList_store_at rfl 42 (.tmp 2) (.tmp 24) rfl (o := 0) rfl rfl s5.out hs0 (Nat.le_refl _) z1 ?_)
           intro w9 h9 hg9
           have q9 := Lib.hid h9
           have hg9' := Lib.hid hg9
           clear h9 hg9))
      have s9 : RowV 42 w9 (w.heap.size + 1) [.int .i64 0, .int .u16 0, .int .i64 0, .string ⟨#[]⟩] := q9.out
      have m0 := s9.cell 0
      have m1 := s9.cell 1
      have m2 := s9.cell 2
      have m3 := s9.cell 3
      simp only [List.getElem?_cons_zero, List.getElem?_cons_succ] at m0 m1 m2 m3
      refine bodyPost_ret (v := .tuple #[rowV zeroR, .int .i64 161]) (by simp [results, Try.results38, go_sem, m0, m1, m2, m3, rowV, zeroR]) rfl ?_
      exact ⟨zeroR, 161, lenT s, hrp.out, rfl, Gr.own gr5.out hg9'.out (by omega), r5.out.keep hg9'.out (by omega) (fun e => by have := hsrc.out _ e; omega)⟩
    · go_wp2_with fail
      refine (raw_any g d z (lenT s).e (lenT s).l w5 r5.out).mono ?_
      rintro e w6 ⟨nq, nc, rfl, hnew, hg6, hr6⟩
      have hcv := conv_note hnew.1
      have b6 := Lib.hid (b5.out.gr hg6 (by omega))
      have s6 := Lib.hid (s5.out.gr hg6 (by omega))
      have y6 := Lib.hid (y5.out.gr hg6 (by omega))
      have gr6 := Lib.hid (gr5.out.trans hg6)
      have r6 : Hid (RdrS w6 g d ((lenT s).next z)) := hr6
      have c6 := b6.out.cell 0 rfl
      have hnl : Hid (rawL z (lenT s).l (lenT s).e = (lenT s).raw z) := Lib.hid rfl
      obtain ⟨N, hN⟩ : ∃ N, rawL z (lenT s).l (lenT s).e = N := ⟨_, rfl⟩
      rw [hN] at hcv hnew ⊢
      have hN' := Lib.hid hN
      clear hN hnew hg6 hr6 c5
      go_wp2_with fail
      refine (rdErr g d ((lenT s).next z) w6 r6.out).mono ?_
      rintro e w6' ⟨rfl, rfl⟩
      obtain ⟨er, her⟩ : ∃ x, ((lenT s).next z).e = x := ⟨_, rfl⟩
      rw [her]
      have her' := Lib.hid her
      clear her hcv c6
      by_cases hz7 : er = 0
      · subst hz7
        have hrp : Hid (rowP s = (⟨⟨kt, ki⟩, vv, ⟨N.toArray⟩⟩, 0, (lenT s).next z)) := by
          show rowP s = _
          unfold rowP
          rw [if_pos (by rw [hk'.out]; exact hb'.out), if_pos (by rw [hzl.out]; omega), hzl.out, if_pos her'.out, hk'.out, hv'.out, ← hnl.out, hN'.out]
        have z5 : ∀ v ∈ ([.int .i64 kt, .int .u16 ki, .int .i64 vv, .string ⟨N.toArray⟩] : List Value), v.oneCell' = true := RowD.one ⟨⟨kt, ki⟩, vv, ⟨N.toArray⟩⟩
        have hs5 := sizeRow kt ki vv ⟨N.toArray⟩
        go_wp2_with (first
          | (with_reducible refine wpList_load_at rfl 40 (.tmp 4) rfl Try.underlying40 rfl hs3 rfl y6.out.all ?_)
          | ((with_reducible refine wpList_store_at rfl 42 (.tmp 2) (.tmp 41) rfl (o := 0) (vs := [.int .i64 kt, .int .u16 ki, .int .i64 vv, .string ⟨N.toArray⟩]) rfl rfl s6.out hs5 (Nat.le_refl _) z5 ?_)
             intro w9 h9 hg9
             have q9 := Lib.hid h9
             have hg9' := Lib.hid hg9
             clear h9 hg9))
        have s9 : RowV 42 w9 (w.heap.size + 1) [.int .i64 kt, .int .u16 ki, .int .i64 vv, .string ⟨N.toArray⟩] := q9.out
        have m0 := s9.cell 0
        have m1 := s9.cell 1
        have m2 := s9.cell 2
        have m3 := s9.cell 3
        simp only [List.getElem?_cons_zero, List.getElem?_cons_succ] at m0 m1 m2 m3
        refine bodyPost_ret (v := .tuple #[rowV ⟨⟨kt, ki⟩, vv, ⟨N.toArray⟩⟩, .int .i64 0]) (by simp [results, Try.results38, go_sem, m0, m1, m2, m3, rowV]) rfl ?_
        exact ⟨_, _, _, hrp.out, rfl, Gr.own gr6.out hg9'.out (by omega), r6.out.keep hg9'.out (by omega) (fun e => by have := hsrc.out _ e; omega)⟩
      · have hrp : Hid (rowP s = (zeroR, er, (lenT s).next z)) := by
          show rowP s = _
          unfold rowP
          rw [if_pos (by rw [hk'.out]; exact hb'.out), if_pos (by rw [hzl.out]; omega), hzl.out, her'.out, if_neg hz7]
        go_wp2_with (first
          | ((with_reducible refine wpList_store_at rfl 42 (.tmp 2) (.tmp 36) rfl (o := 0) rfl rfl s6.out hs0 (Nat.le_refl _) z1 ?_)
             intro w9 h9 hg9
             have q9 := Lib.hid h9
             have hg9' := Lib.hid hg9
             clear h9 hg9))
        have s9 : RowV 42 w9 (w.heap.size + 1) [.int .i64 0, .int .u16 0, .int .i64 0, .string ⟨#[]⟩] := q9.out
        have m0 := s9.cell 0
        have m1 := s9.cell 1
        have m2 := s9.cell 2
        have m3 := s9.cell 3
        simp only [List.getElem?_cons_zero, List.getElem?_cons_succ] at m0 m1 m2 m3
        refine bodyPost_ret (v := .tuple #[rowV zeroR, .int .i64 er]) (by simp [results, Try.results38, go_sem, m0, m1, m2, m3, rowV, zeroR]) rfl ?_
        exact ⟨zeroR, er, _, hrp.out, rfl, Gr.own gr6.out hg9'.out (by omega), r6.out.keep hg9'.out (by omega) (fun e => by have := hsrc.out _ e; omega)⟩
end Go.Proofs.Ytcniolmihpkmmaa
