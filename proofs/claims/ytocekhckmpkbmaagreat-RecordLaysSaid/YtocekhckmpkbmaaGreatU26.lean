/- Parts of the proof: Plain mathematics of records' bytes: what was laid is read back; what is read and may be was laid so; Plain mathematics of records' bytes: a whole record is read back; what is read, and may be, was laid so -/
import Derived.Test.YtocekhckmpkbmaaGreatU25
import Derived.Test.YtocekhckmpkbmaaGreatU01
namespace Go.Proofs.YtocekhckmpkbmaaGreat
open Go.RowKit
/-! what was laid is read back -/
def ts (l : List UInt8) : RSt := ⟨⟨l, 0⟩, false⟩
theorem ts_nx {k : Int} {pre rest : List UInt8} (h : (pre.length : Int) = k) : (ts (pre ++ rest)).nx k = ts rest ∧ (ts (pre ++ rest)).nm k = num pre := by
 obtain ⟨a, b, _⟩ := next_app (rest := rest) h; exact ⟨by show (⟨_, _⟩ : RSt) = _; show (⟨(⟨pre ++ rest, 0⟩ : St).next k, false⟩ : RSt) = _; rw [a]; rfl, b⟩
theorem be_back {n : Nat} {x : Nat} {rest : List UInt8} (hx : x < 256 ^ n) : (ts (be n x ++ rest)).nx n = ts rest ∧ (ts (be n x ++ rest)).nm n = x := by
 obtain ⟨a, b⟩ := ts_nx (k := n) (pre := be n x) (rest := rest) (by rw [length_be]); refine ⟨a, ?_⟩; rw [b, num_be, Nat.mod_eq_of_lt hx]
theorem u64_id {x : Int} (h : U64 x) : u64 x = x.toNat := by
 unfold u64; rw [Int.emod_eq_of_lt h.1 h.2]
theorem u64_cast {x : Int} (h : U64 x) : (u64 x : Int) = x := by rw [u64_id h]; exact Int.toNat_of_nonneg h.1
theorem u64_of {x : Int} {b : Int} (h0 : 0 ≤ x) (h1 : x < b) (hb : b ≤ 18446744073709551616) : U64 x := ⟨h0, by omega⟩
/-- a number that fits is read back -/
theorem n1_back {x : Int} {rest : List UInt8} (h0 : 0 ≤ x) (h1 : x < 256) : (ts (be 1 (u64 x) ++ rest)).nx 1 = ts rest ∧ (ts (be 1 (u64 x) ++ rest)).nm 1 = x := by
 have hu := u64_of h0 h1 (by decide); obtain ⟨a, b⟩ := be_back (n := 1) (x := u64 x) (rest := rest) (by have h := u64_cast hu; omega); exact ⟨a, b.trans (u64_cast hu)⟩
theorem n2_back {x : Int} {rest : List UInt8} (h0 : 0 ≤ x) (h1 : x < 65536) : (ts (be 2 (u64 x) ++ rest)).nx 2 = ts rest ∧ (ts (be 2 (u64 x) ++ rest)).nm 2 = x := by
 have hu := u64_of h0 h1 (by decide); obtain ⟨a, b⟩ := be_back (n := 2) (x := u64 x) (rest := rest) (by have h := u64_cast hu; omega); exact ⟨a, b.trans (u64_cast hu)⟩
theorem n4_back {x : Int} {rest : List UInt8} (h0 : 0 ≤ x) (h1 : x < 4294967296) : (ts (be 4 (u64 x) ++ rest)).nx 4 = ts rest ∧ (ts (be 4 (u64 x) ++ rest)).nm 4 = x := by
 have hu := u64_of h0 h1 (by decide); obtain ⟨a, b⟩ := be_back (n := 4) (x := u64 x) (rest := rest) (by have h := u64_cast hu; omega); exact ⟨a, b.trans (u64_cast hu)⟩
theorem n8_back {x : Int} {rest : List UInt8} (h : U64 x) : (ts (be 8 x.toNat ++ rest)).nx 8 = ts rest ∧ (ts (be 8 x.toNat ++ rest)).nm 8 = x := by
 obtain ⟨a, b⟩ := be_back (n := 8) (x := x.toNat) (rest := rest) (by have h1 := h.1; have h2 := h.2; omega); exact ⟨a, b.trans (Int.toNat_of_nonneg h.1)⟩
theorem u8_back {x : Int} {rest : List UInt8} : (ts (be 8 (u64 x) ++ rest)).nx 8 = ts rest ∧ (ts (be 8 (u64 x) ++ rest)).nm 8 = (u64 x : Int) := by
 have hu := u64_ok x; exact be_back (n := 8) (x := u64 x) (rest := rest) (by have h2 := hu.2; omega)
theorem takeC_rd {c c' : ContD} {rest : List UInt8} {t' : RSt} (hg : GoodC c) (hok : OkC c) (h : TakeCR (ts (encC c ++ rest)) c' t') : c' = c ∧ t' = ts rest := by
 obtain ⟨n, er, ht, rfl⟩ := h; obtain ⟨rfl, rfl, rfl⟩ := takeC_back hg hok ht; refine ⟨rfl, ?_⟩; obtain ⟨a, _⟩ := next_app (k := ((encC c').length : Int)) (pre := encC c') (rest := rest) rfl; show (⟨(⟨encC c' ++ rest, 0⟩ : St).next _, _⟩ : RSt) = _; rw [a]; rfl
theorem takeR_rd {r r' : RowD} {rest : List UInt8} {t' : RSt} (hc : chkRowC r = 0) (hok : RowOk r) (h : TakeRR (ts (encRow r ++ rest)) r' t') : r' = r ∧ t' = ts rest := by
 obtain ⟨n, er, ht, rfl⟩ := h; obtain ⟨rfl, rfl, rfl⟩ := takeR_back hc hok ht; refine ⟨rfl, ?_⟩; obtain ⟨a, _⟩ := next_app (k := ((encRow r').length : Int)) (pre := encRow r') (rest := rest) rfl; show (⟨(⟨encRow r' ++ rest, 0⟩ : St).next _, _⟩ : RSt) = _; rw [a]; rfl
section
variable {α : Type} {R : RSt → α → RSt → Prop} {f : α → List UInt8}
theorem listQ_back {L : List α} (hb : ∀ x ∈ L, ∀ rest y t', R (ts (f x ++ rest)) y t' → y = x ∧ t' = ts rest) : ∀ (n : Nat) (rest : List UInt8) (M : List α) (t' : RSt), n ≤ L.length → ListQ R n (ts (encL f (L.take n) ++ rest)) M t' → M = L.take n ∧ t' = ts rest
 | 0, rest, M, t', _, h => by obtain ⟨rfl, rfl⟩ := h; exact ⟨by simp, by simp [encL]⟩
 | n + 1, rest, M, t', hn, h => by obtain ⟨M', x, t1, rfl, h1, h2⟩ := h; have hx : L[n]? = some (L[n]'(by omega)) := List.getElem?_eq_getElem (by omega); rw [encL_step hx, List.append_assoc] at h1; obtain ⟨rfl, rfl⟩ := listQ_back hb n (f (L[n]'(by omega)) ++ rest) M' t1 (by omega) h1; obtain ⟨rfl, rfl⟩ := hb _ (List.mem_of_getElem? hx) rest x t' h2; refine ⟨?_, rfl⟩; rw [List.take_add_one, hx]; rfl
theorem listW_back {L M : List α} {most : Int} {rest : List UInt8} {t' : RSt} (hb : ∀ x ∈ L, ∀ rest y t', R (ts (f x ++ rest)) y t' → y = x ∧ t' = ts rest) (hm : (L.length : Int) ≤ most) (h256 : most < 256)
 (h : ListW R most (ts (be 1 (u64 (L.length : Int)) ++ (encL f L ++ rest))) M t') : M = L ∧ t' = ts rest := by
 obtain ⟨a, b⟩ := n1_back (x := (L.length : Int)) (rest := encL f L ++ rest) (by omega) (by omega); unfold ListW at h; rw [a, b] at h; rcases h with ⟨h1, _⟩ | ⟨_, h⟩
 · omega
 · rw [Int.toNat_natCast] at h; have e : encL f L = encL f (L.take L.length) := by rw [List.take_length]
   rw [e] at h; have := listQ_back hb L.length rest M t' (Nat.le_refl _) h
   rwa [List.take_length] at this
end
structure ImgOk (d : ImgD) : Prop where
 p0 : 0 ≤ d.page
 p1 : d.page < 64
 gb : GoodC d.bef
 ga : GoodC d.aft
 ob : OkC d.bef
 oa : OkC d.aft
theorem image_back {d : ImgD} (h : ImgOk d) (rest : List UInt8) (y : ImgD) (t' : RSt) (hr : ImageR (ts (encImg d ++ rest)) y t') : y = d ∧ t' = ts rest := by
 obtain ⟨t2, h1, h2, h3⟩ := hr; unfold encImg at h1 h2; rw [List.append_assoc] at h1 h2; obtain ⟨a, b⟩ := n1_back (x := d.page) (rest := (encC d.bef ++ encC d.aft) ++ rest) h.p0 (by have := h.p1; omega); rw [b] at h1; rw [a, List.append_assoc] at h2; obtain ⟨e1, rfl⟩ := takeC_rd h.gb h.ob h2; obtain ⟨e2, rfl⟩ := takeC_rd h.ga h.oa h3; obtain ⟨p, be, af⟩ := y; obtain ⟨p', be', af'⟩ := d; simp only at h1 e1 e2; subst h1 e1 e2; exact ⟨rfl, rfl⟩
theorem after_back {d : ImgD} (h : ImgOk d) (hz : d.bef = zeroC) (rest : List UInt8) (y : ImgD) (t' : RSt) (hr : AfterR (ts (encAft d ++ rest)) y t') : y = d ∧ t' = ts rest := by
 obtain ⟨h1, h2, h3⟩ := hr; unfold encAft at h1 h3; rw [List.append_assoc] at h1 h3; obtain ⟨a, b⟩ := n1_back (x := d.page) (rest := encC d.aft ++ rest) h.p0 (by have := h.p1; omega); rw [b] at h1; rw [a] at h3; obtain ⟨e2, rfl⟩ := takeC_rd h.ga h.oa h3; obtain ⟨p, be, af⟩ := y; obtain ⟨p', be', af'⟩ := d; simp only at h1 h2 e2 hz; subst h1 h2 e2 hz; exact ⟨rfl, rfl⟩
theorem wrap_u64 {x : Int} (h : I64 x) : IntKind.i64.wrap (u64 x : Int) = x := by
 rw [IntKind.wrap_i64]; unfold u64; unfold I64 at h; omega
theorem bare_back {k : KeyD} {rest : List UInt8} (h0 : 0 ≤ k.t) (h1 : k.t < 3) (hi0 : 0 ≤ k.id) (hi1 : k.id < 65536) : bareD (ts (be 1 (u64 k.t) ++ (be 2 (u64 k.id) ++ rest))) = ⟨k, 0, ⟨#[]⟩⟩ ∧ bareT (ts (be 1 (u64 k.t) ++ (be 2 (u64 k.id) ++ rest))) = ts rest := by
 obtain ⟨a, b⟩ := n1_back (x := k.t) (rest := be 2 (u64 k.id) ++ rest) h0 (by omega); obtain ⟨c, d⟩ := n2_back (x := k.id) (rest := rest) hi0 hi1; unfold bareD bareT; rw [a, b, c, d]; exact ⟨rfl, rfl⟩
theorem step_back {s : StepD} (hg : stpB s = true) (hok : StepOk s) (rest : List UInt8) (y : StepD) (t' : RSt) (hr : StepR (ts (encStep s ++ rest)) y t') : y = s ∧ t' = ts rest := by
 obtain ⟨hc, hk⟩ := stp_kind hg; have hfit := fitsR_ok (L := []) (r := s.row) (by unfold fitsR; rw [hc]; rfl); have hid := hok.row.key.id; unfold stpB at hg; rw [Bool.and_eq_true] at hg; have hg := hg.2; unfold encStep at hr; rw [List.append_assoc] at hr; obtain ⟨a, b⟩ := n1_back (x := s.kind) (rest := (if s.kind = 2 then encRow s.row else if s.kind = 3 then encRow s.row else be 1 (u64 s.row.key.t) ++ (be 2 (u64 s.row.key.id) ++ (if s.kind = 1 then be 8 (u64 s.by_) else []))) ++ rest) (by omega) (by omega); unfold StepR at hr; rw [a, b] at hr; obtain ⟨kd, ⟨⟨t, id⟩, v, n⟩, by_⟩ := s; simp only at hk hg hr hc hfit hid; rcases hk with rfl | rfl | rfl | rfl
 · simp only [Int.reduceEq, if_true, if_false, or_self, List.append_assoc] at hr hg; obtain ⟨e1, e2⟩ := bare_back (k := ⟨t, id⟩) (rest := be 8 (u64 by_) ++ rest) hfit.1 hfit.2.1 hid.1 hid.2; simp only at e1 e2; obtain ⟨c, d⟩ := u8_back (x := by_) (rest := rest); rw [e1, e2, c, d, wrap_u64 hok.by_] at hr; have hb := eqR_iff.1 hg; simp only at hb; obtain ⟨rfl, rfl⟩ := hr; rw [hb]; exact ⟨rfl, rfl⟩
 · simp only [Int.reduceEq, if_true, if_false, true_or] at hr hg; obtain ⟨r, hr1, rfl⟩ := hr; obtain ⟨rfl, rfl⟩ := takeR_rd hc hok.row hr1; have : by_ = 0 := by simpa using hg
   subst this; exact ⟨rfl, rfl⟩
 · simp only [Int.reduceEq, if_true, if_false, or_true] at hr hg; obtain ⟨r, hr1, rfl⟩ := hr; obtain ⟨rfl, rfl⟩ := takeR_rd hc hok.row hr1; have : by_ = 0 := by simpa using hg
   subst this; exact ⟨rfl, rfl⟩
 · simp only [Int.reduceEq, if_true, if_false, or_self, List.append_assoc, List.nil_append] at hr hg; obtain ⟨e1, e2⟩ := bare_back (k := ⟨t, id⟩) (rest := rest) hfit.1 hfit.2.1 hid.1 hid.2; simp only at e1 e2; rw [e1, e2] at hr; rw [Bool.and_eq_true] at hg; have hb := eqR_iff.1 hg.1; simp only at hb; have : by_ = 0 := by simpa using hg.2
   subst this; obtain ⟨rfl, rfl⟩ := hr; rw [hb]; exact ⟨rfl, rfl⟩
theorem txn_back {t : TxnD} (h0 : 0 ≤ t.txn) (h1 : t.txn < 4294967296) (hs0 : 0 ≤ t.state) (hs1 : t.state < 256) (hok : TxnOk t) (rest : List UInt8) (y : TxnD) (t' : RSt) (hr : TxnR (ts (encTxn t ++ rest)) y t') : y = t ∧ t' = ts rest := by
 obtain ⟨h2, h3⟩ := hr; unfold encTxn at h2 h3; simp only [List.append_assoc] at h2 h3; obtain ⟨a1, b1⟩ := n4_back (x := t.txn) (rest := be 8 t.first.toNat ++ (be 8 t.last.toNat ++ (be 8 t.undo.toNat ++ (be 1 (u64 t.state) ++ rest)))) h0 h1; obtain ⟨a2, b2⟩ := n8_back (x := t.first) (rest := be 8 t.last.toNat ++ (be 8 t.undo.toNat ++ (be 1 (u64 t.state) ++ rest))) hok.first; obtain ⟨a3, b3⟩ := n8_back (x := t.last) (rest := be 8 t.undo.toNat ++ (be 1 (u64 t.state) ++ rest)) hok.last; obtain ⟨a4, b4⟩ := n8_back (x := t.undo) (rest := be 1 (u64 t.state) ++ rest) hok.undo; obtain ⟨a5, b5⟩ := n1_back (x := t.state) (rest := rest) hs0 hs1; rw [a1, a2, a3, a4, b1, b2, b3, b4, b5] at h2; rw [a1, a2, a3, a4, a5] at h3; exact ⟨h2, h3⟩
theorem pg_back {p : PgD} (h0 : 0 ≤ p.page) (h1 : p.page < 64) (hok : PgOk p) (rest : List UInt8) (y : PgD) (t' : RSt) (hr : PgR (ts (encPg p ++ rest)) y t') : y = p ∧ t' = ts rest := by
 obtain ⟨h2, h3⟩ := hr; unfold encPg at h2 h3; rw [List.append_assoc] at h2 h3; obtain ⟨a1, b1⟩ := n1_back (x := p.page) (rest := be 8 p.rec_.toNat ++ rest) h0 (by omega); obtain ⟨a2, b2⟩ := n8_back (x := p.rec_) (rest := rest) hok.rec_; rw [a1, b1, b2] at h2; rw [a1, a2] at h3; exact ⟨h2, h3⟩
end Go.Proofs.YtocekhckmpkbmaaGreat
namespace Go.Proofs.YtocekhckmpkbmaaGreat
open Go.RowKit
theorem sameB_iff {α : Type} {e : α → α → Bool} (he : ∀ a b, e a b = true ↔ a = b) : ∀ {l m : List α}, sameB e l m = true ↔ l = m
 | [], [] => by simp [sameB]
 | [], _ :: _ => by simp [sameB]
 | _ :: _, [] => by simp [sameB]
 | a :: l, b :: m => by simp [sameB, he a b, sameB_iff he (l := l) (m := m)]
theorem sameI_iff (a b : ImgD) : sameI a b = true ↔ a = b := by
 obtain ⟨p, x, y⟩ := a; obtain ⟨p', x', y'⟩ := b; unfold sameI; simp only [Bool.and_eq_true, sameC_iff, beq_iff_eq, ImgD.mk.injEq]; exact ⟨fun h => ⟨h.1.1, h.1.2, h.2⟩, fun h => ⟨⟨h.1, h.2.1⟩, h.2.2⟩⟩
theorem eqS_iff (a b : StepD) : eqS a b = true ↔ a = b := by
 obtain ⟨p, x, y⟩ := a; obtain ⟨p', x', y'⟩ := b; unfold eqS; simp only [Bool.and_eq_true, eqR_iff, beq_iff_eq, StepD.mk.injEq]
theorem eqT_iff (a b : TxnD) : eqT a b = true ↔ a = b := by
 obtain ⟨p, x, y, z, u⟩ := a; obtain ⟨p', x', y', z', u'⟩ := b; unfold eqT; simp only [Bool.and_eq_true, beq_iff_eq, TxnD.mk.injEq]
theorem eqP_iff (a b : PgD) : eqP a b = true ↔ a = b := by
 obtain ⟨p, x⟩ := a; obtain ⟨p', x'⟩ := b; unfold eqP; simp only [Bool.and_eq_true, beq_iff_eq, PgD.mk.injEq]
theorem sameRec_iff (a b : RecD) : sameRec a b = true ↔ a = b := by
 obtain ⟨a1, a2, a3, a4, a5, a6, a7, a8, a9, a10⟩ := a; obtain ⟨b1, b2, b3, b4, b5, b6, b7, b8, b9, b10⟩ := b; unfold sameRec; simp only [Bool.and_eq_true, beq_iff_eq, RecD.mk.injEq, sameB_iff sameI_iff, sameB_iff eqS_iff, sameB_iff eqT_iff, sameB_iff eqP_iff]
/-- what a record holds can be laid: each number is one of its kind -/
structure DOk (r : RecD) : Prop where
 ints : I64 r.kind ∧ U64 r.lsn ∧ I64 r.txn ∧ U64 r.prev ∧ U64 r.next ∧ I64 r.nextTxn
 img : ∀ d ∈ r.images, OkC d.bef ∧ OkC d.aft
 sok : ∀ s ∈ r.steps, StepOk s
 tok : ∀ t ∈ r.txns, TxnOk t
 dok : ∀ p ∈ r.dirty, PgOk p
theorem RecV.On.ok {v : RecV} {w : World} {V : List ImgV} {r : RecD} (h : v.On w V r) : DOk r :=
 ⟨h.ints, fun d hd => by
  obtain ⟨i, hi⟩ := List.mem_iff_getElem?.1 hd; have hl := (List.getElem?_eq_some_iff.1 hi).1; have hv : V[i]? = some (V[i]'(by have := h.images.len; omega)) := List.getElem?_eq_getElem _; have ho := h.images.get i _ d hv hi
  exact ⟨ContOn.ok ho.bef, ContOn.ok ho.aft⟩, h.sok, h.tok, h.dok⟩
theorem riseF_at2 : ∀ (L : List Int) (a : Int), riseF a L = true → ∀ p ∈ L, a < p ∧ p < 64
 | [], _, _, p, hp => by cases hp
 | q :: r, a, h, p, hp => by
   unfold riseF at h
   split at h
   · cases h
   · rcases List.mem_cons.1 hp with rfl | hp
     · omega
     · have := riseF_at2 r q h p hp; omega
theorem imgs_ok {r : RecD} (hok : DOk r) (h : imgsB r.images = true) : ∀ d ∈ r.images, ImgOk d := fun d hd => by
 have hi := (pB_iff _).1 h; have hp := riseF_at2 _ _ hi.1.2 d.page (List.mem_map.2 ⟨d, hd, rfl⟩); have hg := hi.2 d hd; exact ⟨by omega, hp.2, hg.1, hg.2, (hok.img d hd).1, (hok.img d hd).2⟩
theorem txF_at2 {lsn nt : Int} : ∀ (L : List TxnD) (a : Int), txF lsn nt a L = true → ∀ t ∈ L, a < t.txn ∧ t.txn < nt ∧ 1 ≤ t.state ∧ t.state ≤ 3
 | [], _, _, t, ht => by cases ht
 | q :: r, a, h, t, ht => by
   unfold txF at h
   split at h
   · cases h
   · rename_i hb
     unfold txBad at hb; rcases List.mem_cons.1 ht with rfl | ht
     · omega
     · have := txF_at2 r q.txn h t ht; omega
theorem kind_range {r : RecD} (h : mayB r = true) : 1 ≤ r.kind ∧ r.kind ≤ 9 := by
 have hl := lay_of h; unfold LayOk at hl
 by_cases h2 : r.kind = 2
 · omega
 by_cases h4 : r.kind = 4
 · omega
 by_cases h5 : r.kind = 5
 · omega
 by_cases h9 : r.kind = 9
 · omega
 rw [if_neg h2, if_neg h4, if_neg h5, if_neg h9] at hl; omega
theorem may_parts {r : RecD} (h : mayB r = true) : 1 ≤ r.lsn ∧ r.lsn ≤ 1099511627776 ∧ othersD r = zRec ∧ kindB r = true := by
 unfold mayB headB at h; simp only [Bool.and_eq_true, decide_eq_true_eq, sameRec_iff] at h; exact ⟨h.1.1, h.1.2.1, h.1.2.2, h.2⟩
theorem chain_txn {r : RecD} (h : chainB r = true) : 0 ≤ r.txn ∧ r.txn < 4294967296 := by
 unfold chainB numB at h; simp only [Bool.and_eq_true, decide_eq_true_eq] at h; omega
theorem txn_range {r : RecD} (h : mayB r = true) : 0 ≤ r.txn ∧ r.txn < 4294967296 := by
 have hk := kind_range h; have hb := (may_parts h).2.2.2; have hc : r.kind = 1 ∨ r.kind = 2 ∨ r.kind = 3 ∨ r.kind = 4 ∨ r.kind = 5 ∨ r.kind = 6 ∨ r.kind = 7 ∨ r.kind = 8 ∨ r.kind = 9 := by omega
 rcases hc with e | e | e | e | e | e | e | e | e
 · rw [kindB1 e] at hb; unfold numB at hb; simp only [Bool.and_eq_true, decide_eq_true_eq] at hb; omega
 · rw [kindB2 e] at hb; simp only [Bool.and_eq_true] at hb; exact chain_txn hb.1
 · rw [kindB3 e] at hb; simp only [Bool.and_eq_true] at hb; exact chain_txn hb.1
 · rw [kindB4 e] at hb; simp only [Bool.and_eq_true] at hb; exact chain_txn hb.1
 · rw [kindB5 e] at hb; simp only [Bool.and_eq_true] at hb; exact chain_txn hb.1
 · rw [kindB6 e] at hb; exact chain_txn hb
 · rw [kindB7 e] at hb; exact chain_txn hb
 · rw [kindB8 e] at hb; exact chain_txn hb
 · rw [kindB9 e] at hb; simp only [Bool.and_eq_true, beq_iff_eq] at hb; omega
theorem head_back {r : RecD} (hm : mayB r = true) (hok : DOk r) (tail : List UInt8) : headR (encRec r ++ tail) = headD r.kind r.lsn r.txn r.prev ∧ tailT (encRec r ++ tail) = ts (encRest r ++ tail) := by
 have hk := kind_range hm; have ht := txn_range hm; have e : encRec r ++ tail = be 1 (u64 r.kind) ++ (be 8 r.lsn.toNat ++ (be 4 (u64 r.txn) ++ (be 8 r.prev.toNat ++ (encRest r ++ tail)))) := by unfold encRec; simp only [List.append_assoc]
 obtain ⟨a1, b1⟩ := n1_back (x := r.kind) (rest := be 8 r.lsn.toNat ++ (be 4 (u64 r.txn) ++ (be 8 r.prev.toNat ++ (encRest r ++ tail)))) (by omega) (by omega); obtain ⟨a2, b2⟩ := n8_back (x := r.lsn) (rest := be 4 (u64 r.txn) ++ (be 8 r.prev.toNat ++ (encRest r ++ tail))) hok.ints.2.1; obtain ⟨a3, b3⟩ := n4_back (x := r.txn) (rest := be 8 r.prev.toNat ++ (encRest r ++ tail)) ht.1 ht.2; obtain ⟨a4, b4⟩ := n8_back (x := r.prev) (rest := encRest r ++ tail) hok.ints.2.2.2.1; have e0 : t0R (encRec r ++ tail) = ts (be 1 (u64 r.kind) ++ (be 8 r.lsn.toNat ++ (be 4 (u64 r.txn) ++ (be 8 r.prev.toNat ++ (encRest r ++ tail))))) := by rw [e]; rfl
 unfold headR tailT; rw [e0, a1, a2, a3, a4, b1, b2, b3, b4]; exact ⟨rfl, rfl⟩
theorem rest_back {r r' : RecD} {t' : RSt} (hm : mayB r = true) (hok : DOk r) (tail : List UInt8) (h : RestR (headD r.kind r.lsn r.txn r.prev) (ts (encRest r ++ tail)) r' t') : r' = r ∧ t' = ts tail := by
 have hk := kind_range hm; obtain ⟨_, _, hoth, hb⟩ := may_parts hm; have hc : r.kind = 1 ∨ r.kind = 2 ∨ r.kind = 3 ∨ r.kind = 4 ∨ r.kind = 5 ∨ r.kind = 6 ∨ r.kind = 7 ∨ r.kind = 8 ∨ r.kind = 9 := by omega
 unfold RestR at h; unfold encRest at h; simp only [headD] at h; unfold othersD zRec at hoth; obtain ⟨k, lsn, txn, prev, next, images, steps, nextTxn, txns, dirty⟩ := r; simp only at hc h hoth; rcases hc with rfl | rfl | rfl | rfl | rfl | rfl | rfl | rfl | rfl
 case inr.inl => simp only [Int.reduceEq, if_true, if_false, RecD.mk.injEq, true_and, List.append_assoc] at h hoth; obtain ⟨rfl, rfl, rfl, rfl, rfl⟩ := hoth; rw [kindB2 rfl] at hb; simp only [Bool.and_eq_true] at hb; obtain ⟨L, hl, rfl⟩ := h; have hi := imgs_ok hok hb.2.2; have h16 := ((pB_iff _).1 hb.2.2).1.1; obtain ⟨rfl, rfl⟩ := listW_back (L := images) (f := encImg) (fun x hx rest y t' => image_back (hi x hx) rest y t') (by have h2 : images.length ≤ 16 := h16; omega) (by decide) hl; exact ⟨rfl, rfl⟩
 case inr.inr.inl => simp only [Int.reduceEq, if_true, if_false, RecD.mk.injEq, true_and] at h hoth; obtain ⟨rfl, rfl, rfl, rfl, rfl⟩ := hoth; obtain ⟨a, b⟩ := n8_back (x := next) (rest := tail) hok.ints.2.2.2.2.1; rw [a, b] at h; exact h
 case inr.inr.inr.inl => simp only [Int.reduceEq, if_true, if_false, RecD.mk.injEq, true_and, List.append_assoc] at h hoth; obtain ⟨rfl, rfl, rfl, rfl⟩ := hoth; rw [kindB4 rfl] at hb; simp only [Bool.and_eq_true] at hb; have hs := hb.2.2; unfold stpsB at hs; simp only [Bool.and_eq_true, decide_eq_true_eq] at hs; obtain ⟨a, b⟩ := n8_back (x := next) (rest := be 1 (u64 (steps.length : Int)) ++ (encL encStep steps ++ tail)) hok.ints.2.2.2.2.1; rw [a, b] at h; obtain ⟨L, hl, rfl⟩ := h; obtain ⟨rfl, rfl⟩ := listW_back (L := steps) (f := encStep) (fun x hx rest y t' => step_back (List.all_eq_true.1 hs.2.2 x hx) (hok.sok x hx) rest y t') (by omega) (by decide) hl; exact ⟨rfl, rfl⟩
 case inr.inr.inr.inr.inl => simp only [Int.reduceEq, if_true, if_false, RecD.mk.injEq, true_and, List.append_assoc] at h hoth; obtain ⟨rfl, rfl, rfl, rfl⟩ := hoth; rw [kindB5 rfl] at hb; simp only [Bool.and_eq_true] at hb; have hi := imgs_ok hok hb.2.2.1; have h16 := ((pB_iff _).1 hb.2.2.1).1.1; have hz := (pB_iff _).1 hb.2.2.2; obtain ⟨a, b⟩ := n8_back (x := next) (rest := be 1 (u64 (images.length : Int)) ++ (encL encAft images ++ tail)) hok.ints.2.2.2.2.1; rw [a, b] at h; obtain ⟨L, hl, rfl⟩ := h; obtain ⟨rfl, rfl⟩ := listW_back (L := images) (f := encAft) (fun x hx rest y t' => after_back (hi x hx) (hz x hx) rest y t') (by have h2 : images.length ≤ 16 := h16; omega) (by decide) hl; exact ⟨rfl, rfl⟩
 case inr.inr.inr.inr.inr.inr.inr.inr =>
  simp only [Int.reduceEq, if_true, if_false, RecD.mk.injEq, true_and, and_true, List.append_assoc] at h hoth; obtain ⟨rfl, rfl, rfl⟩ := hoth; rw [kindB9 rfl] at hb; simp only [Bool.and_eq_true, beq_iff_eq] at hb; have hn := hb.2.2.1; unfold numB at hn; simp only [Bool.and_eq_true, decide_eq_true_eq] at hn; have ht := hb.2.2.2.1; unfold txnsB at ht; have hd := hb.2.2.2.2; unfold dirtyB at hd; simp only [Bool.and_eq_true, decide_eq_true_eq] at ht hd; have hl64 := riseF_len _ _ (by decide) hd.2; rw [List.length_map] at hl64; obtain ⟨a, b⟩ := n4_back (x := nextTxn) (rest := be 1 (u64 (txns.length : Int)) ++ (encL encTxn txns ++ (be 1 (u64 (dirty.length : Int)) ++ (encL encPg dirty ++ tail)))) (by omega) (by omega); rw [a, b] at h; obtain ⟨L, M, t1, hl, hm2, rfl⟩ := h
  obtain ⟨rfl, rfl⟩ := listW_back (L := txns) (f := encTxn) (fun x hx rest y t' => by
   have h1 := txF_at2 _ _ ht.2 x hx
   exact txn_back (by omega) (by omega) (by omega) (by omega) (hok.tok x hx) rest y t') (by omega) (by decide) hl
  obtain ⟨rfl, rfl⟩ := listW_back (L := dirty) (f := encPg) (fun x hx rest y t' => by
   have h1 := riseF_at2 _ _ hd.2 x.page (List.mem_map.2 ⟨x, hx, rfl⟩)
   exact pg_back (by omega) h1.2 (hok.dok x hx) rest y t') (by omega) (by decide) hm2
  exact ⟨rfl, rfl⟩
 all_goals
  simp only [Int.reduceEq, if_false, RecD.mk.injEq, true_and, List.nil_append] at h hoth; obtain ⟨rfl, rfl, rfl, rfl, rfl, rfl⟩ := hoth; exact h
/-- A record's bytes, and whatever stands behind: it is read back, and good just if nothing stands behind. -/
theorem read_back {r r' : RecD} {good : Bool} (hm : mayB r = true) (hok : DOk r) (tail : List UInt8) (h : ReadR (encRec r ++ tail) r' good) : r' = r ∧ good = ((tail.length : Int) == 0) := by
 obtain ⟨e1, e2⟩ := head_back hm hok tail; have hk := kind_range hm; unfold ReadR at h; rw [e1, e2, if_pos (show 1 ≤ (headD r.kind r.lsn r.txn r.prev).kind ∧ (headD r.kind r.lsn r.txn r.prev).kind ≤ 9 from hk)] at h; obtain ⟨t', h1, rfl⟩ := h; obtain ⟨rfl, rfl⟩ := rest_back hm hok tail h1; exact ⟨rfl, by simp [ts]⟩
end Go.Proofs.YtocekhckmpkbmaaGreat
