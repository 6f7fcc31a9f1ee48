/- The reader of codec: a list of kids. -/
import Derived.Test.YtcniolmihpkmmaaKLr
namespace Go.Proofs.Ytcniolmihpkmmaa
open Go.RowKit

theorem kidD_okk (s : St) : KidOk (kidD s) := by
  obtain ⟨k0, k1, k2, k3⟩ := keyD_ok s
  obtain ⟨p0, p1⟩ := kidD_ok s
  exact ⟨⟨by unfold I64; constructor <;> (have : (kidD s).least.t = (keyD s).t := rfl; omega), k2, k3⟩, by unfold I64; omega⟩
theorem RowV.kids1 {w : World} {g : Nat} {r : KidD} (h : RowV 56 w g r.cells) (hok : KidOk r) : KidsOn w (some ⟨g, 0, none⟩) 1 1 [r] :=
  ⟨rfl, Nat.le_refl _, by unfold maxLen; decide, (fun e => by cases e), fun i x hi => ⟨_, rfl, fun j v hj => by
    match i, hi with
    | 0, hi =>
      obtain rfl : r = x := by simpa using hi
      rw [Nat.zero_mul, add0]
      exact h.part (pre := []) (rest := []) (by simp) rfl j v hj
    | i + 1, hi => simp at hi⟩, fun x hx => by rw [List.mem_singleton.1 hx]; exact hok⟩
def kidsP : Nat → List KidD → St → List KidD × Int × St
  | 0, acc, s => (acc, s.e, s)
  | n + 1, acc, s => if (kidS s).e = 0 then kidsP n (acc ++ [kidD s]) (kidS s) else ([], (kidS s).e, kidS s)
def listK (s : St) : List KidD × Int × St := if 4 < s.num 1 then ([], 161, s.next 1) else kidsP (s.num 1).toNat [] (s.next 1)

/-- what the list holds in the middle -/
structure LKS (w : World) (g : Nat) (d : Option Nat) (acc : List KidD) (v : Value) (s : St) (u : World) : Prop where
  box : Boxed u w.heap.size [.pointer (some ⟨g, 0, none⟩)]
  own : OwnK u (w.heap.size + 1) v acc
  gr : w.grownBy u (some g)
  rd : RdrS u g d s
  far : w.heap.size < u.heap.size
theorem LKS.on {w u v : World} {g : Nat} {d : Option Nat} {acc : List KidD} {q : Option Addr} {n c : Nat} {s s' : St} (h : LKS w g d acc (.slice q n c) s u) (hg : u.grownBy v (some g)) (hr : RdrS v g d s') (hb : g < w.heap.size) : LKS w g d acc (.slice q n c) s' v :=
  ⟨h.box.gr hg (by omega), h.own.kept (fun a ha => hg.block _ (h.own.far a ha).2 (fun e => by have := (h.own.far a ha).1; simp at e; omega)), h.gr.trans hg, hr, Nat.lt_of_lt_of_le h.far hg.size⟩
theorem LKS.below {w u v : World} {g : Nat} {d : Option Nat} {acc : List KidD} {q : Option Addr} {n c : Nat} {s : St} (h : LKS w g d acc (.slice q n c) s u) (hb : Below u.heap.size u v) : LKS w g d acc (.slice q n c) s v :=
  ⟨h.box.below hb (Nat.le_refl _), h.own.below hb, Gr.then h.gr hb, h.rd.below hb, Nat.lt_of_lt_of_le h.far hb.size⟩
theorem LKS.more {w u v : World} {g : Nat} {d : Option Nat} {acc acc' : List KidD} {q q' : Option Addr} {n c n' c' : Nat} {s : St} (h : LKS w g d acc (.slice q n c) s u) (hg : u.grownBy v (q.map (·.block))) (ho : OwnK v (w.heap.size + 1) (.slice q' n' c') acc')
    (hb : g < w.heap.size) (hsrc : ∀ x, d = some x → x < w.heap.size) : LKS w g d acc' (.slice q' n' c') s v := by
  cases q with
  | none =>
    have hbl : Below u.heap.size u v := grown_belowN hg (Nat.le_refl _) (fun k hk => by cases hk)
    exact ⟨h.box.below hbl (Nat.le_refl _), ho, Gr.then h.gr hbl, h.rd.below hbl, Nat.lt_of_lt_of_le h.far hbl.size⟩
  | some a =>
    have hf := (h.own.far a rfl).1
    have hg' : u.grownBy v (some a.block) := hg
    exact ⟨h.box.gr hg' (by omega), ho, Gr.own h.gr hg' (by omega), h.rd.keep hg' (by omega) (fun e => by have := hsrc _ e; omega), Nat.lt_of_lt_of_le h.far hg'.size⟩
def ListK (s : St) (w : World) (g : Nat) (d : Option Nat) (e : Ending) (w' : World) : Prop :=
  ∃ L er s' q n c, listK s = (L, er, s') ∧ e = .returned (.tuple #[.slice q n c, .int .i64 er]) ∧ KidsOn w' q n c L ∧ w.grownBy w' (some g) ∧ RdrS w' g d s' ∧ (∀ a, q = some a → w.heap.size ≤ a.block)

set_option maxRecDepth 100000 in
set_option maxHeartbeats 4000000 in
theorem listK_rd (g : Nat) (d : Option Nat) (s : St) (w : World) (h : RdrS w g d s) :
    Calls Try.prog 72 #[.agg #[.pointer (some ⟨g, 0, none⟩)], .int .i64 4, .func (.func 73) #[.agg #[.pointer (some ⟨g, 0, none⟩)]] #[]] w (ListK s w g d) := by
  obtain ⟨W, hW⟩ : ∃ W, w.alloc (.cells #[.pointer (some ⟨g, 0, none⟩)] 73) = W := ⟨_, rfl⟩
  have hbx := Lib.hid (one_box (xs := [.pointer (some ⟨g, 0, none⟩)]) hW)
  have hg := h.lt
  have hsrc := Lib.hid h.src
  have hr := Lib.hid (h.below hbx.out.1)
  have c0 := hbx.out.2.1.cell 0 rfl
  have hn := numV1 s.l s.e
  obtain ⟨z, hz⟩ : ∃ z : Nat, s.num 1 = z := ⟨(s.num 1).toNat, by have : s.num 1 = numV 1 s.l s.e := rfl; omega⟩
  have hzz : 0 ≤ (z : Int) ∧ (z : Int) < 256 := by rw [← hz]; exact hn
  have hu8 := rd8 g d s W hr.out
  rw [hz] at hu8
  have hz' := Lib.hid hz
  have hfar := hbx.out.2.2
  clear h hz hn
  obtain ⟨z0, z1⟩ := hzz
  go_enter Try.func72, Try.ntmps72
  go_wp2_with fail
  refine hu8.mono ?_
  clear hu8
  rintro e w1 ⟨rfl, hg1, hr1⟩
  have hb1 := Lib.hid (hbx.out.2.1.gr hg1 (by omega))
  have gr1 := Lib.hid (Gr.after hbx.out.1 hg1)
  have r1 := Lib.hid hr1
  have hf1 : w.heap.size < w1.heap.size := by have := hg1.size; omega
  clear hg1 hr1 c0 hW
  by_cases h4 : 4 < z
  · have hl : Hid (listK s = ([], 161, s.next 1)) := by
      show listK s = _
      unfold listK
      rw [hz'.out, if_pos (by omega)]
    go_wp2
    go_ret2
    exact ⟨_, _, _, none, 0, 0, hl.out, rfl, KidsOn.none_ _, gr1.out, r1.out, fun a ha => by cases ha⟩
  · have hl : Hid (listK s = kidsP z [] (s.next 1)) := by
      show listK s = _
      unfold listK
      rw [hz'.out, if_neg (by omega)]
      rfl
    have hr0 : Hid (LKS w g d [] (.slice none 0 0) (s.next 1) w1) := ⟨hb1.out, OwnK.nil _ _, gr1.out, r1.out, hf1⟩
    have he0 : Hid (kidsP z [] (s.next 1) = kidsP (z - 0) [] (s.next 1) ∧ ([] : List KidD).length = 0 ∧ ∀ x ∈ ([] : List KidD), KidOk x) := ⟨rfl, rfl, fun x hx => by cases hx⟩
    go_wp2
    go_loopw [9, 20] (fun v9 v20 wr => ∃ (k : Nat) (acc : List KidD) (si : St) (q0 : Option Addr) (n0 cap0 : Nat), k ≤ z ∧ v20 = .int .i64 k ∧ v9 = .slice q0 n0 cap0 ∧ Hid (kidsP z [] (s.next 1) = kidsP (z - k) acc si ∧ acc.length = k ∧ ∀ x ∈ acc, KidOk x) ∧ Hid (LKS w g d acc (.slice q0 n0 cap0) si wr)) (fun _ v20 _ => z - (intOf v20).toNat)
    case atStart => exact ⟨0, [], s.next 1, none, 0, 0, Nat.zero_le _, rfl, rfl, he0, hr0⟩
    case round =>
      obtain ⟨k, acc, si, q0, n0, cap0, hk, rfl, rfl, hac, hrl⟩ := hrel
      by_cases hlt : k < z
      · have hn0 : n0 ≤ k := by rw [hrl.out.own.len]; exact Nat.le_of_eq hac.out.2.1
        go_wp2_with fail
        refine (kid_rd g d si wr hrl.out.rd).mono ?_
        rintro e u1 ⟨rfl, hg1, hr1⟩
        have hS1 := Lib.hid (hrl.out.on hg1 hr1 hg)
        have hzk : z - k = (z - (k + 1)) + 1 := by omega
        have hkok := Lib.hid (kidD_okk si)
        obtain ⟨s1, hs1⟩ : ∃ x, kidS si = x := ⟨_, rfl⟩
        obtain ⟨er, her⟩ : ∃ x, s1.e = x := ⟨_, rfl⟩
        obtain ⟨kd, hkd⟩ : ∃ x, kidD si = x := ⟨_, rfl⟩
        rw [hkd] at hkok
        rw [hs1] at hS1
        rw [hkd, hs1, her]
        have hs1' := Lib.hid hs1
        have her' := Lib.hid her
        have hkd' := Lib.hid hkd
        clear hs1 her hkd hg1 hr1
        unfold kidV
        obtain ⟨⟨rt, ri⟩, rv⟩ := kd
        by_cases hz7 : er = 0
        · subst hz7
          have hstep : Hid (kidsP z [] (s.next 1) = kidsP (z - (k + 1)) (acc ++ [⟨⟨rt, ri⟩, rv⟩]) s1 ∧ (acc ++ [(⟨⟨rt, ri⟩, rv⟩ : KidD)]).length = k + 1 ∧ ∀ x ∈ acc ++ [(⟨⟨rt, ri⟩, rv⟩ : KidD)], KidOk x) := by
            refine ⟨?_, by rw [List.length_append, hac.out.2.1]; rfl, fun x hx => ?_⟩
            · rw [hac.out.1, hzk]
              show (if (kidS si).e = 0 then _ else _) = _
              rw [hs1'.out, if_pos her'.out, hkd'.out]
            · rcases List.mem_append.1 hx with hx | hx
              · exact hac.out.2.2 x hx
              · rw [List.mem_singleton.1 hx]; exact hkok.out
          clear hzk
          obtain ⟨W2, hW2⟩ : ∃ W2, (u1.alloc (.cells #[.int .i64 rt, .int .u16 ri, .int .i64 rv] 56)).alloc (.cells #[.int .i64 rt, .int .u16 ri, .int .i64 rv] 56) = W2 := ⟨_, rfl⟩
          have hb2 := Lib.hid (two_boxes (xs := [.int .i64 rt, .int .u16 ri, .int .i64 rv]) (ys := [.int .i64 rt, .int .u16 ri, .int .i64 rv]) hW2)
          have f1 := Lib.hid (Boxed.made (T := 56) u1 [.int .i64 rt, .int .u16 ri, .int .i64 rv])
          have hs2 := sizeKid rt ri rv
          have hrow : Hid (KidsOn W2 (some ⟨u1.heap.size + 1, 0, none⟩) 1 1 [⟨⟨rt, ri⟩, rv⟩]) := by
            have h0 := RowV.made (T := 56) (u1.alloc (.cells #[.int .i64 rt, .int .u16 ri, .int .i64 rv] 56)) [.int .i64 rt, .int .u16 ri, .int .i64 rv]
            have h1 : RowV 56 W2 (u1.heap.size + 1) [.int .i64 rt, .int .u16 ri, .int .i64 rv] := by rw [← hW2]; simpa using h0
            exact RowV.kids1 (r := ⟨⟨rt, ri⟩, rv⟩) h1 hkok.out
          have hS2 := Lib.hid (hS1.out.below hb2.out.1)
          have hsz : Hid (w.heap.size + 1 ≤ W2.heap.size) := hS2.out.far
          have h40 : Hid ((n0 + 1) * 24 ≤ 140737488355328) := by show _ ≤ _; omega
          have h41 : Hid (n0 + 1 ≤ 140737488355328) := by show _ ≤ _; omega
          go_wp2_with (first
            | (with_reducible refine wpList_load_at rfl 56 (.tmp 10) rfl Try.underlying56 rfl hs2 rfl f1.out.all ?_)
            | (at_builtin
               refine wpList_append_k Try.underlying25 infoKid rfl rfl (.tmp 30) (.tmp 32) rfl rfl rfl hS2.out.own hrow.out h40.out h41.out hsz.out ?_
               intro q' c' w' h1 h2 h3
               have hnew : Hid (LKS w g d (acc ++ [⟨⟨rt, ri⟩, rv⟩]) (.slice q' (n0 + 1) c') s1 w') := hS2.out.more h2 h1 hg hsrc.out
               clear h1 h2 h3))
          go_roundw
          case rel => exact ⟨k + 1, acc ++ [⟨⟨rt, ri⟩, rv⟩], s1, q', n0 + 1, c', by omega, by go_num, rfl, hstep, hnew⟩
          case measure => simp [intOf]; omega
        · have hfin : Hid (listK s = ([], er, s1)) := by
            show listK s = _
            rw [hl.out, hac.out.1, hzk]
            show (if (kidS si).e = 0 then _ else _) = _
            rw [hs1'.out, if_neg (by rw [her'.out]; exact hz7), her'.out]
          clear hzk
          go_wp2
          go_ret2
          exact ⟨_, _, _, none, 0, 0, hfin.out, rfl, KidsOn.none_ _, Gr.then hS1.out.gr ((Below.refl _ _).alloc (Nat.le_refl _) _), hS1.out.rd.below ((Below.refl _ _).alloc (Nat.le_refl _) _), fun a ha => by cases ha⟩
      · obtain rfl : z = k := by omega
        have cE := hrl.out.box.cell 0 rfl
        go_wp2_with fail
        refine (rdErr g d si wr hrl.out.rd).mono ?_
        rintro e wE ⟨rfl, rfl⟩
        clear cE
        have hfin : Hid (listK s = (acc, si.e, si)) := by
          show listK s = _
          rw [hl.out, hac.out.1, Nat.sub_self]
          rfl
        go_wp2
        go_ret2
        exact ⟨_, _, _, q0, n0, cap0, hfin.out, rfl, hrl.out.own.reads hac.out.2.2, hrl.out.gr, hrl.out.rd, fun a ha => by have := (hrl.out.own.far a ha).1; omega⟩
end Go.Proofs.Ytcniolmihpkmmaa
