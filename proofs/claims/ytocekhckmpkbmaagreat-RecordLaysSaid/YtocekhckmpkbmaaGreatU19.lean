/- Parts of the proof: short and few of the laws on codec; Plain mathematics of what is read: what was laid is taken back; less of it is too short; The writer of record: single numbers, contents, steps -/
import Derived.Test.YtocekhckmpkbmaaGreatU09
import Derived.Test.YtocekhckmpkbmaaGreatU01
import Derived.Test.YtocekhckmpkbmaaGreatU07
import Derived.Test.YtocekhckmpkbmaaGreatU17
import Derived.Test.YtocekhckmpkbmaaGreatU18
namespace Go.Proofs.YtocekhckmpkbmaaGreat
open Go.RowKit
def shortR (r : RowD) : RowD := ⟨r.key, r.val, r.note.extract 0 (min r.note.size 9)⟩
theorem shortR_ok {r : RowD} (h : RowOk r) : RowOk (shortR r) := ⟨h.key, h.val, by
 have := h.note; show (r.note.extract 0 (min r.note.size 9)).size ≤ maxLen; rw [ByteArray.size_extract]; unfold maxLen at *
 omega⟩
def fewC (c : ContD) : ContD := ⟨c.kind, (c.rows.take 5).map shortR, c.kids.take 5⟩
theorem OwnK.empty (w : World) : OwnK (w.alloc (.cells #[] 100)) w.heap.size (.slice (some ⟨w.heap.size, 0, none⟩) 0 0) [] :=
 ⟨rfl, .inr ⟨_, 0, #[], rfl, Nat.le_refl _, heap_alloc_new w _, Nat.le_refl _, Nat.zero_le _, rfl, rfl⟩⟩
end Go.Proofs.YtocekhckmpkbmaaGreat
namespace Go.Proofs.YtocekhckmpkbmaaGreat
open Go.RowKit
theorem num_be : ∀ (n x : Nat), num (be n x) = x % 256 ^ n
 | 0, x => by simp [be, num, Nat.mod_one]
 | n + 1, x => by
   show num (be n (x / 256) ++ [UInt8.ofNat x]) = _; have h8 : (UInt8.ofNat x).toNat = x % 256 := by simp
   have hp : 256 ^ (n + 1) = 256 * 256 ^ n := by rw [Nat.pow_succ, Nat.mul_comm]
   have h := Nat.mod_mul (x := x) (a := 256) (b := 256 ^ n); rw [num_snoc, num_be n (x / 256), h8, hp, h]; omega
theorem next_app {k : Int} {pre rest : List UInt8} (h : (pre.length : Int) = k) : (⟨pre ++ rest, 0⟩ : St).next k = ⟨rest, 0⟩ ∧ (⟨pre ++ rest, 0⟩ : St).num k = num pre ∧ (⟨pre ++ rest, 0⟩ : St).raw k = pre := by
 have hk : k.toNat = pre.length := by omega
 have g : gOk k (pre ++ rest) 0 = true := by unfold gOk; simp; omega
 unfold St.next St.num St.raw nextL nextE numV rawL; simp only [g, if_true, hk, List.take_left, List.drop_left]; simp
theorem ofNat_num {t : Int} (h0 : 0 ≤ t) (h1 : t < 256) : (num [UInt8.ofNat t.toNat] : Int) = t := by
 rw [num_one]; exact ofNat_int h0 h1
theorem key_back {k : KeyD} {rest : List UInt8} (h0 : 0 ≤ k.t) (h1 : k.t < 256) (hi0 : 0 ≤ k.id) (hi1 : k.id < 65536) : keyD ⟨encKey k ++ rest, 0⟩ = k ∧ keyS ⟨encKey k ++ rest, 0⟩ = ⟨rest, 0⟩ := by
 obtain ⟨t, id⟩ := k; have e : encKey ⟨t, id⟩ ++ rest = [UInt8.ofNat t.toNat] ++ (be 2 id.toNat ++ rest) := rfl; obtain ⟨a1, a2, _⟩ := next_app (k := 1) (pre := [UInt8.ofNat t.toNat]) (rest := be 2 id.toNat ++ rest) rfl; obtain ⟨b1, b2, _⟩ := next_app (k := 2) (pre := be 2 id.toNat) (rest := rest) (by rw [length_be]; rfl); unfold keyD keyS; rw [e, a1, a2, b1, b2]; refine ⟨?_, rfl⟩; rw [ofNat_num h0 h1, num_be]; congr 1; have hi0' : 0 ≤ id := hi0; have hi1' : id < 65536 := hi1; omega
theorem row_back {r : RowD} {rest : List UInt8} (hc : chkRowC r = 0) (hok : RowOk r) : rowP ⟨encRow r ++ rest, 0⟩ = (r, 0, ⟨rest, 0⟩) := by
 obtain ⟨k, v, s⟩ := r; obtain ⟨t0, t1, h8⟩ := fitsR_ok (L := []) (r := ⟨k, v, s⟩) (by unfold fitsR; rw [hc]; rfl); have t0' : 0 ≤ k.t := t0; have t1' : k.t < 3 := t1; have h8' : s.size ≤ 8 := h8; have hi := hok.key.id; have hv : I64 v := hok.val
 have e : encRow ⟨k, v, s⟩ ++ rest = encKey k ++ (be 8 (u64 v) ++ ([UInt8.ofNat s.size] ++ (s.data.toList ++ rest))) := by unfold encRow; rw [List.append_assoc, List.append_assoc, List.append_assoc]
 obtain ⟨a1, a2⟩ := key_back (k := k) (rest := be 8 (u64 v) ++ ([UInt8.ofNat s.size] ++ (s.data.toList ++ rest))) t0' (by omega) hi.1 hi.2; obtain ⟨b1, b2, _⟩ := next_app (k := 8) (pre := be 8 (u64 v)) (rest := [UInt8.ofNat s.size] ++ (s.data.toList ++ rest)) (by rw [length_be]; rfl); obtain ⟨c1, c2, _⟩ := next_app (k := 1) (pre := [UInt8.ofNat s.size]) (rest := s.data.toList ++ rest) rfl; have hsz : (num [UInt8.ofNat s.size] : Int) = s.size := by rw [num_one]; simp; omega
 have hL : lenS ⟨encRow ⟨k, v, s⟩ ++ rest, 0⟩ = s.size := by unfold lenS; rw [e, a2, b1, c2, hsz]
 have hT : lenT ⟨encRow ⟨k, v, s⟩ ++ rest, 0⟩ = ⟨s.data.toList ++ rest, 0⟩ := by unfold lenT; rw [e, a2, b1, c1]
 obtain ⟨d1, _, d3⟩ := next_app (k := (s.size : Int)) (pre := s.data.toList) (rest := rest) (by rw [Array.length_toList]; rfl)
 have hV : valS ⟨encRow ⟨k, v, s⟩ ++ rest, 0⟩ = v := by unfold valS; rw [e, a2, b2, num_be, IntKind.wrap_i64]; unfold I64 at hv; unfold u64; omega
 have hK : keyD ⟨encRow ⟨k, v, s⟩ ++ rest, 0⟩ = k := by rw [e]; exact a1
 unfold rowP; rw [hK, hL, hT, hV, d1, d3]; have hta : tabB k.t = true := by unfold tabB; simp; omega
 rw [if_pos hta, if_pos (by omega), if_pos rfl]
theorem kid_back {k : KidD} {rest : List UInt8} (hok : KidOk k) (t0 : 0 ≤ k.least.t) (t1 : k.least.t < 3) (p0 : 1 ≤ k.page) (p1 : k.page < 64) : kidD ⟨encKid k ++ rest, 0⟩ = k ∧ kidS ⟨encKid k ++ rest, 0⟩ = ⟨rest, 0⟩ := by
 obtain ⟨k, p⟩ := k; have p0' : 1 ≤ p := p0; have p1' : p < 64 := p1
 have e : encKid ⟨k, p⟩ ++ rest = encKey k ++ ([UInt8.ofNat p.toNat] ++ rest) := by unfold encKid; rw [List.append_assoc]
 obtain ⟨a1, a2⟩ := key_back (k := k) (rest := [UInt8.ofNat p.toNat] ++ rest) t0 (by have t1' : k.t < 3 := t1; omega) hok.key.id.1 hok.key.id.2; obtain ⟨b1, b2, _⟩ := next_app (k := 1) (pre := [UInt8.ofNat p.toNat]) (rest := rest) rfl; unfold kidD kidS; rw [e, a1, a2, b1, b2, ofNat_num (by omega) (by omega)]; exact ⟨rfl, rfl⟩
theorem rowsP_back : ∀ (L acc : List RowD) (rest : List UInt8), (∀ r ∈ L, chkRowC r = 0 ∧ RowOk r) → rowsP L.length acc ⟨encRows L ++ rest, 0⟩ = (acc ++ L, 0, ⟨rest, 0⟩)
 | [], acc, rest, _ => by show (acc, (0 : Int), (⟨[] ++ rest, 0⟩ : St)) = _; rw [List.append_nil, List.nil_append]
 | r :: L, acc, rest, h => by obtain ⟨h1, h2⟩ := h r (List.mem_cons_self ..); have hb := row_back (rest := encRows L ++ rest) h1 h2; rw [encRows_cons, List.append_assoc, List.length_cons]; show (if (rowP ⟨encRow r ++ (encRows L ++ rest), 0⟩).2.1 = 0 then _ else _) = _; rw [hb, if_pos rfl, rowsP_back L (acc ++ [r]) rest (fun x hx => h x (List.mem_cons_of_mem _ hx))]; simp
theorem kidsP_back : ∀ (L acc : List KidD) (rest : List UInt8), (∀ k ∈ L, KidOk k ∧ 0 ≤ k.least.t ∧ k.least.t < 3 ∧ 1 ≤ k.page ∧ k.page < 64) → kidsP L.length acc ⟨encKids L ++ rest, 0⟩ = (acc ++ L, 0, ⟨rest, 0⟩)
 | [], acc, rest, _ => by show (acc, (0 : Int), (⟨[] ++ rest, 0⟩ : St)) = _; rw [List.append_nil, List.nil_append]
 | k :: L, acc, rest, h => by obtain ⟨h1, h2, h3, h4, h5⟩ := h k (List.mem_cons_self ..); obtain ⟨b1, b2⟩ := kid_back (rest := encKids L ++ rest) h1 h2 h3 h4 h5; rw [encKids_cons, List.append_assoc, List.length_cons]; show (if (kidS ⟨encKid k ++ (encKids L ++ rest), 0⟩).e = 0 then _ else _) = _; rw [b1, b2, if_pos rfl, kidsP_back L (acc ++ [k]) rest (fun x hx => h x (List.mem_cons_of_mem _ hx))]; simp
/-- all that lies in a content can be read -/
structure OkC (c : ContD) : Prop where
 rows : ∀ r ∈ c.rows, RowOk r
 kids : ∀ k ∈ c.kids, KidOk k
theorem ContOn.ok {w : World} {k : Int} {rq kq : Option Addr} {rn rc kn kc : Nat} {c : ContD} (h : ContOn w k rq rn rc kq kn kc c) : OkC c := ⟨h.rows.ok, h.kids.ok⟩
theorem part_back {c : ContD} {rest : List UInt8} (hg : GoodC c) (hok : OkC c) : ((⟨encC c ++ rest, 0⟩ : St).next 1).e = 0 ∧ ¬ 2 < (⟨encC c ++ rest, 0⟩ : St).num 1 ∧ partP ⟨encC c ++ rest, 0⟩ = (c, 0, ⟨rest, 0⟩) := by
 obtain ⟨k, rows, kids⟩ := c; rcases hg with ⟨hk, hr, hd⟩ | ⟨hk, hr, hd⟩ | ⟨hk, hd, hr⟩
 · have hk' : k = 0 := hk; have hr' : rows = [] := hr; have hd' : kids = [] := hd; subst hk' hr' hd'; obtain ⟨a1, a2, _⟩ := next_app (k := 1) (pre := [(0 : UInt8)]) (rest := rest) rfl; show ((⟨[0] ++ rest, 0⟩ : St).next 1).e = 0 ∧ ¬ 2 < (⟨[0] ++ rest, 0⟩ : St).num 1 ∧ partP ⟨[0] ++ rest, 0⟩ = _; unfold partP; rw [a1, a2]; exact ⟨rfl, by decide, rfl⟩
 · have hk' : k = 1 := hk; have hd' : kids = [] := hd; have hr' : GoodR rows := hr; subst hk' hd'; have e : encC ⟨1, rows, []⟩ ++ rest = [1] ++ ([UInt8.ofNat rows.length] ++ (encRows rows ++ rest)) := by show ([1] ++ ([UInt8.ofNat rows.length] ++ encRows rows)) ++ rest = _; rw [List.append_assoc, List.append_assoc]
   obtain ⟨a1, a2, _⟩ := next_app (k := 1) (pre := [(1 : UInt8)]) (rest := [UInt8.ofNat rows.length] ++ (encRows rows ++ rest)) rfl; obtain ⟨b1, b2, _⟩ := next_app (k := 1) (pre := [UInt8.ofNat rows.length]) (rest := encRows rows ++ rest) rfl; have hl := hr'.len; have hn : (num [UInt8.ofNat rows.length] : Int) = rows.length := by rw [num_one]; simp; omega
   have hlist : listR ⟨[UInt8.ofNat rows.length] ++ (encRows rows ++ rest), 0⟩ = (rows, 0, ⟨rest, 0⟩) := by
    unfold listR
    rw [b1, b2, hn, if_neg (by omega), Int.toNat_natCast, rowsP_back rows [] rest (fun r hr => by
     obtain ⟨i, hi⟩ := List.mem_iff_getElem?.1 hr; have hf := hr'.fits i r hi; unfold fitsR at hf; rw [Bool.and_eq_true, decide_eq_true_eq] at hf
     exact ⟨hf.1, hok.rows r hr⟩)]
    rfl
   rw [e]; unfold partP leafP; rw [a1, a2, hlist]; exact ⟨rfl, by decide, rfl⟩
 · have hk' : k = 2 := hk; have hr' : rows = [] := hr; have hd' : GoodK kids := hd; subst hk' hr'; have e : encC ⟨2, [], kids⟩ ++ rest = [2] ++ ([UInt8.ofNat kids.length] ++ (encKids kids ++ rest)) := by show ([2] ++ ([UInt8.ofNat kids.length] ++ encKids kids)) ++ rest = _; rw [List.append_assoc, List.append_assoc]
   obtain ⟨a1, a2, _⟩ := next_app (k := 1) (pre := [(2 : UInt8)]) (rest := [UInt8.ofNat kids.length] ++ (encKids kids ++ rest)) rfl; obtain ⟨b1, b2, _⟩ := next_app (k := 1) (pre := [UInt8.ofNat kids.length]) (rest := encKids kids ++ rest) rfl; have hl := hd'.len; have hn : (num [UInt8.ofNat kids.length] : Int) = kids.length := by rw [num_one]; simp; omega
   have hlist : listK ⟨[UInt8.ofNat kids.length] ++ (encKids kids ++ rest), 0⟩ = (kids, 0, ⟨rest, 0⟩) := by
    unfold listK
    rw [b1, b2, hn, if_neg (by omega), Int.toNat_natCast, kidsP_back kids [] rest (fun r hr => by
     obtain ⟨i, hi⟩ := List.mem_iff_getElem?.1 hr; have hf := fitsK_ok (hd'.fits i r hi)
     exact ⟨hok.kids r hr, hf⟩)]
    rfl
   rw [e]; unfold partP innerP; rw [a1, a2, hlist]; exact ⟨rfl, by decide, rfl⟩
theorem encC_len {c : ContD} (hg : GoodC c) : (encC c).length ≤ 82 ∧ 0 < (encC c).length := by
 obtain ⟨k, rows, kids⟩ := c; rcases hg with ⟨hk, _, _⟩ | ⟨hk, hr, _⟩ | ⟨hk, hd, _⟩
 · have hk' : k = 0 := hk; subst hk'; show ([0] : List UInt8).length ≤ 82 ∧ 0 < ([0] : List UInt8).length; exact ⟨by decide, by decide⟩
 · have hk' : k = 1 := hk; have hr' : GoodR rows := hr; subst hk'; show ([1] ++ ([UInt8.ofNat rows.length] ++ encRows rows)).length ≤ 82 ∧ 0 < ([1] ++ ([UInt8.ofNat rows.length] ++ encRows rows)).length
   have h := encRows_len (L := rows) (fun r hr => by
    obtain ⟨i, hi⟩ := List.mem_iff_getElem?.1 hr
    exact (fitsR_ok (hr'.fits i r hi)).2.2)
   have hl := hr'.len; simp; omega
 · have hk' : k = 2 := hk; have hd' : GoodK kids := hd; subst hk'; show ([2] ++ ([UInt8.ofNat kids.length] ++ encKids kids)).length ≤ 82 ∧ 0 < ([2] ++ ([UInt8.ofNat kids.length] ++ encKids kids)).length; have h := encKids_len kids; have hl := hd'.len; simp; omega
theorem content_det {s s0 s' : St} {c0 c : ContD} {er : Int} (h0 : (s.next 1).e = 0) (h2 : ¬ 2 < s.num 1) (hp : partP s = (c0, 0, s0)) (hg : GoodC c0) (h : ContentIs s c er s') : c = c0 ∧ er = 0 ∧ s' = s0 := by
 unfold ContentIs at h; rw [if_neg (by simpa using h0), if_neg h2, hp, if_neg (by simp)] at h; rcases h with ⟨_, h1, h3, h4⟩ | ⟨h1, _⟩
 · exact ⟨h1, h3, h4⟩
 · exact absurd hg h1
theorem takeC_back {c c' : ContD} {tail : List UInt8} {n er : Int} (hg : GoodC c) (hok : OkC c) (h : TakeC (encC c ++ tail) c' n er) : c' = c ∧ n = (encC c).length ∧ er = 0 := by
 obtain ⟨c1, er1, s', hc, hd⟩ := h; have hl := (encC_len hg).1
 have e : (encC c ++ tail).take 82 = encC c ++ tail.take (82 - (encC c).length) := by rw [List.take_append, List.take_of_length_le hl]
 rw [e] at hc; obtain ⟨h0, h2, hp⟩ := part_back (rest := tail.take (82 - (encC c).length)) hg hok; obtain ⟨r1, r2, r3⟩ := content_det h0 h2 hp hg hc; subst r1 r2 r3; rcases hd with ⟨hne, _⟩ | ⟨_, h4, h5, h6⟩
 · exact absurd rfl hne
 · refine ⟨h4, ?_, h6⟩; rw [h5, e, List.length_append]; show (((encC c1).length + (tail.take (82 - (encC c1).length)).length : Nat) : Int) - ((tail.take (82 - (encC c1).length)).length : Int) = _; omega
theorem takeR_back {r r' : RowD} {tail : List UInt8} {n er : Int} (hc : chkRowC r = 0) (hok : RowOk r) (h : TakeR (encRow r ++ tail) r' n er) : r' = r ∧ n = (encRow r).length ∧ er = 0 := by
 obtain ⟨c1, er1, s', hp, hd⟩ := h; have h8 : r.note.size ≤ 8 := (fitsR_ok (L := []) (r := r) (by unfold fitsR; rw [hc]; rfl)).2.2; have hl : (encRow r).length ≤ 20 := by rw [encRow_len]; omega
 have e : (encRow r ++ tail).take 20 = encRow r ++ tail.take (20 - (encRow r).length) := by rw [List.take_append, List.take_of_length_le hl]
 rw [e, row_back hc hok] at hp; simp only [Prod.mk.injEq] at hp; obtain ⟨rfl, rfl, rfl⟩ := hp; rcases hd with ⟨hne, _⟩ | ⟨_, h4, h5, h6⟩
 · exact absurd rfl hne
 · refine ⟨h4, ?_, h6⟩; rw [h5, e, List.length_append]; show (((encRow r).length + (tail.take (20 - (encRow r).length)).length : Nat) : Int) - ((tail.take (20 - (encRow r).length)).length : Int) = _; omega
end Go.Proofs.YtocekhckmpkbmaaGreat
namespace Go.Proofs.YtocekhckmpkbmaaGreat
open Go.RowKit
theorem u64_ok (x : Int) : U64 (u64 x : Int) := by
 unfold U64 u64; have h1 := Int.emod_nonneg x (show (18446744073709551616 : Int) ≠ 0 by decide); have h2 := Int.emod_lt_of_pos x (show (0 : Int) < 18446744073709551616 by decide); omega
theorem num1 (g : Nat) (o : Option Nat) (l : List UInt8) (k m : Nat) (hk : k + m = 8) (h1k : 1 ≤ k) (P : Int) (hP : U64 P) (w w1 : World) (h : Wr w g o l) (e : w.alloc (.cells #[.int .u64 P] 24) = w1) (hbig : l.length + 8 ≤ 549755813888) :
 Calls Tryz.prog 68 #[.pointer (some ⟨g, 0, none⟩), .int .i64 k, .slice (some ⟨w.heap.size, 0, none⟩) 1 1] w1 (WrPost w g o (l ++ be k P.toNat)) := by
 have hb : Below w.heap.size w w1 := by rw [← e]; exact (Below.refl _ _).alloc (Nat.le_refl _) _
 have hr : RowV 24 w1 w.heap.size [.int .u64 P] := by rw [← e]; exact RowV.made w [.int .u64 P]
 have hlt := h.lt; refine (numbers_any g o l k m 1 w.heap.size hk h1k [P] rfl w1 (h.below hb) hr (by omega) (fun e => by have := h.far _ e; omega) (fun x hx => by rw [List.mem_singleton.1 hx]; exact hP) (by omega)).mono ?_; rintro e w2 ⟨o2, rfl, h2, s2⟩; exact ⟨o2, rfl, by simpa [encNums] using h2, (WStep.of_below hb).trans s2⟩
theorem num3 (g : Nat) (o : Option Nat) (l : List UInt8) (P Q R : Int) (hP : U64 P) (hQ : U64 Q) (hR : U64 R) (w w1 : World) (h : Wr w g o l) (e : w.alloc (.cells #[.int .u64 P, .int .u64 Q, .int .u64 R] 24) = w1) (hbig : l.length + 24 ≤ 549755813888) :
 Calls Tryz.prog 68 #[.pointer (some ⟨g, 0, none⟩), .int .i64 8, .slice (some ⟨w.heap.size, 0, none⟩) 3 3] w1 (WrPost w g o (l ++ (be 8 P.toNat ++ (be 8 Q.toNat ++ be 8 R.toNat)))) := by
 have hb : Below w.heap.size w w1 := by rw [← e]; exact (Below.refl _ _).alloc (Nat.le_refl _) _
 have hr : RowV 24 w1 w.heap.size [.int .u64 P, .int .u64 Q, .int .u64 R] := by rw [← e]; exact RowV.made w [.int .u64 P, .int .u64 Q, .int .u64 R]
 have hlt := h.lt
 refine (numbers_any g o l 8 0 3 w.heap.size rfl (by decide) [P, Q, R] rfl w1 (h.below hb) hr (by omega) (fun e => by have := h.far _ e; omega) (fun x hx => by
  simp only [List.mem_cons, List.not_mem_nil, or_false] at hx
  rcases hx with rfl | rfl | rfl <;> assumption) (by omega)).mono ?_
 rintro e w2 ⟨o2, rfl, h2, s2⟩; exact ⟨o2, rfl, by simpa [encNums] using h2, (WStep.of_below hb).trans s2⟩
theorem wpList_append_at {w : World} {ops : Array Oper} {rest : List Oper} {o : Oper} {a : Act} {Q : Exit → Act → World → Prop} (hgd : o.guard = none) (s x : Operand)
 (ho : o.op = .call { callee := .builtin .append, args := #[s, x], argTypes := #[36, 36] }) {base : Nat} {q0 q : Option Addr} {n0 c0 m d : Nat} {l k : List UInt8} (hs : a.eval s = .slice q0 n0 c0) (hx : a.eval x = .slice q m d)
 (hown : Own w base (.slice q0 n0 c0) l) (hk : Lib.HoldsBytes w (.slice q m d) k) (hbig : n0 + m ≤ 1099511627776) (hbase : base ≤ w.heap.size)
 (h : ∀ q' c' w', Own w' base (.slice q' (n0 + m) c') (l ++ k) → w.grownBy w' (blockOf q0) → (q'.map (·.block) = q0.map (·.block) ∨ q'.map (·.block) = some w.heap.size) → wpList Tryz.prog ops Q rest (a.put o.dst (.slice q' (n0 + m) c')) w') : wpList Tryz.prog ops Q (o :: rest) a w := by
 obtain ⟨q', c', w', hr, h1, h2, h3⟩ := run_append_bytes_at o.type hown hk hbig hbase; exact Lib.wpList_append_run_sl w hgd s x 36 ho _ _ hs hx hr (h q' c' w' h1 h2 h3)
theorem wr_far {w w' : World} {g : Nat} {q : Option Addr} {c n : Nat} {l : List UInt8} (ho : Own w (g + 1) (.slice q n c) l) (hg : g < w.heap.size) (h : w.grownBy w' (blockOf q)) : w'.heap[g]? = w.heap[g]? := h.block g hg (fun e => by
 cases q with
 | none => cases e
 | some a => have h2 := ho.holds.2.2 a rfl; simp [blockOf] at e; omega)
set_option maxRecDepth 100000 in
set_option maxHeartbeats 4000000 in
theorem content_wr (g : Nat) (o : Option Nat) (l : List UInt8) (k : Int) (rq : Option Addr) (rn rc : Nat) (kq : Option Addr) (kn kc : Nat) (c : ContD) (w : World) (h : Wr w g o l) (hc : ContOn w k rq rn rc kq kn kc c) (hgood : GoodC c) (hbig : l.length ≤ 549755813888) :
 Calls Tryz.prog 116 #[.pointer (some ⟨g, 0, none⟩), .agg #[.int .i64 k, .slice rq rn rc, .slice kq kn kc]] w (WrPost w g o (l ++ encC c)) := by
 obtain ⟨W, hW⟩ : ∃ W, w.alloc (.cells #[.int .i64 k, .slice rq rn rc, .slice kq kn kc] 55) = W := ⟨_, rfl⟩; have hbx := lh (one_box hW); have hs2 := sizeCont (.int .i64 k) (.slice rq rn rc) (.slice kq kn kc); have hon := lh (hc.below hbx.out.1 (Nat.le_refl _)); have hwr := lh (h.below hbx.out.1); have hln := lh (encC_len hgood); have hgood := lh hgood; have hbig := lh hbig; clear h hc
 go_enter Tryz.func116, Tryz.ntmps116
 go_wp2_with (first
  | (with_reducible refine wpList_load_at rfl 55 (.tmp 3) rfl Tryz.underlying55 rfl hs2 rfl hbx.out.2.1.all ?_))
 clear hW; refine (content_any k rq rn rc kq kn kc c W hon.out).mono ?_; rintro e w1 ⟨q, n, cp, er, rfl, hor, hb1⟩; rcases hor with ⟨rfl, _, hown⟩ | ⟨_, hb, _⟩
 rotate_left
 · exact absurd hgood.out hb
 have hown := lh hown; obtain ⟨q0, c0, hr, ho, hqo⟩ := hwr.out.below hb1; have hd1 := lh (hbx.out.1.trans (hb1.mono hbx.out.1.size)); obtain ⟨L, hL⟩ : ∃ L, l.length = L := ⟨_, rfl⟩; have hl2 := hr; have ho2 := ho; rw [hL] at hl2 ho2; have hr := lh hr; have ho := lh ho; have hqo := lh hqo; have ho2 := lh ho2; have hLb : Hid (L ≤ 549755813888) := by rw [← hL]; exact hbig
 have hL := lh hL; have hnb : Hid (n ≤ 82) := by show n ≤ 82; have h1 := holds_len hown.out.holds.1; have h2 := hln.out.1; omega
 have e1 := hl2.cell 0; have hl2 := lh hl2; have hgs : Hid (g + 1 ≤ w1.heap.size) := hl2.out.lt; clear hb1
 go_wp2_with (first
  | (at_builtin
     refine wpList_append_at rfl (.tmp 15) (.tmp 16) rfl rfl rfl ho2.out hown.out.holds.1 (by have h1 := hLb.out; have h2 := hnb.out; omega) hgs.out ?_; intro q4 c4 w4 h4 hg4 hat; have h4 := lh h4; have hat := lh hat; have hk := wr_far ho2.out hl2.out.lt hg4; have e4 := (hl2.out.block hk).cell 0; have f4 : w4.frozen? ⟨g, 0, none⟩ = false := (hl2.out.block hk).free 0; have hg4 := lh hg4
     clear hk))
 go_end0; have hlen := holds_len hown.out.holds.1; have hLe := hL.out; subst hLe; obtain ⟨a1, a2⟩ := wr_app hr.out ho.out hlen.symm h4.out hg4.out hat.out rfl; rw [hqo.out] at a2; exact ⟨_, rfl, a1, (WStep.of_below hd1.out).trans a2⟩
end Go.Proofs.YtocekhckmpkbmaaGreat
