/- Cut: the first entries are taken away where all goes well. -/
import Derived.Test.YtjhnagipagkhiaaGreatRCl
namespace Go.Proofs.YtjhnagipagkhiaaGreat
open Go.RowKit

/-- how many sectors the first i entries have -/
def gone (es : List (List UInt8)) (i : Nat) : Nat := ((es.take i).map fun e => secs e.length).sum
theorem gone_next {es : List (List UInt8)} {i : Nat} {e : List UInt8} (h : es[i]? = some e) : gone es (i + 1) = gone es i + secs e.length := by
  unfold gone
  rw [List.take_add_one, h]
  simp
theorem gone_mono (es : List (List UInt8)) (i : Nat) : gone es i ≤ gone es es.length := by
  unfold gone
  rw [List.take_length]
  have h2 : es = es.take i ++ es.drop i := (List.take_append_drop i es).symm
  conv => rhs; rw [h2]
  rw [List.map_append, List.sum_append]
  omega

/-- the first m entries are gone: the row of the entries is a new one -/
theorem RgOn.less {w w1 w' : World} {rg : Nat} {p : Pl} {d : Dk} {x x' : RgV} {vs : List Value} {es : List (List UInt8)} {note : List UInt8} (h : RgOn w rg p d x vs es note) (m : Nat) {q' : Option Addr} {n' c' : Nat}
    (hown : OwnV 30 w1 w.heap.size (.slice q' n' c') (vs.drop m)) (hb : Below w.heap.size w w1) (hg : w1.grownBy w' (some rg)) (hr : RgAt w' rg x')
    (hx : x'.dp = x.dp ∧ x'.nq = x.nq ∧ x'.nl = x.nl ∧ x'.nc = x.nc ∧ x'.eq = q' ∧ x'.el = n' ∧ x'.ec = c') : RgOn w' rg p d x' (vs.drop m) (es.drop m) note := by
  obtain ⟨hd, hn1, hn2, hn3, he1, he2, he3⟩ := hx
  have hsz := h.size
  have hs' : w.heap.size ≤ w'.heap.size := Nat.le_trans hb.size hg.size
  have hsame : ∀ k, rg + 1 ≤ k → k < w.heap.size → w'.heap[k]? = w.heap[k]? := fun k h1 h2 => (hg.block k (by have := hb.size; omega) (fun e => by have h3 : k = rg := (by simpa using e); omega)).trans (hb.block k h2)
  have hmem : ∀ v ∈ vs, ∀ b n c, v = .slice (some b) n c → b.block < w.heap.size := fun v hv b n c e => by
    obtain ⟨i, hi⟩ := List.mem_iff_getElem?.1 hv
    obtain ⟨f, hf⟩ : ∃ f, es[i]? = some f := ⟨_, List.getElem?_eq_getElem (by rw [← h.len]; exact (List.getElem?_eq_some_iff.1 hi).1)⟩
    obtain ⟨q3, n3, c3, e3, hl3⟩ := (h.ent i v f hi hf).lies
    rw [e3] at e
    cases e
    exact (hl3 b rfl).2.1
  refine ⟨(h.disk.below hb).other1 hg (h.far (Nat.le_refl _)), h.low, hr, by rw [hd]; exact h.dp, ?_, by rw [List.length_drop, List.length_drop, h.len], fun i v e h1 h2 => ?_, ?_, fun a ha => ⟨fun v hv b n c e => ?_, fun b hb2 => ?_⟩⟩
  · rw [he1, he2, he3]
    exact (hown.mono (by omega)).kept fun a ha => hg.block _ (hown.far a ha).2 (fun e => by have h1 := (hown.far a ha).1; have h2 : a.block = rg := (by simpa using e); omega)
  · rw [List.getElem?_drop] at h1 h2
    exact (h.ent (m + i) v e h1 h2).keep hs' fun a _ _ _ => hsame a.block
  · rw [hn1, hn2, hn3]
    exact h.note.keep hs' fun a _ _ _ => hsame a.block
  · rw [he1] at ha
    have h1 := (hown.far a ha).1
    have h2 := hmem v (List.mem_of_mem_drop hv) b n c e
    omega
  · rw [he1] at ha
    rw [hn1] at hb2
    have h1 := (hown.far a ha).1
    obtain ⟨q3, n3, c3, e3, hl3⟩ := h.note.lies
    cases e3
    have := (hl3 b hb2).2.1
    omega

theorem add_flat (g k : Nat) : (⟨g, 0, none⟩ : Addr).add k = ⟨g, k, none⟩ := by unfold Addr.add; split <;> simp_all
/-- the copy of the entries but the first m -/
theorem clone_rest {w : World} {rg : Nat} {p : Pl} {d : Dk} {x : RgV} {vs : List Value} {es : List (List UInt8)} {note : List UInt8} (h : RgOn w rg p d x vs es note) (m : Nat) (hm : m ≤ x.el) (hel : x.el ≤ 1000) (q1 : Option Addr) (n1 c1 : Nat) (hq : q1 = x.eq ∧ x.ec = m ∨ q1 = x.eq.map (fun a => a.add m)) (hn1 : n1 = x.el - m) (hc : c1 = x.ec - m) :
    Calls Tryz.prog 61 #[.slice q1 n1 c1] w (fun e w' => ∃ q' c', e = .returned (.slice q' n1 c') ∧ OwnV 30 w' w.heap.size (.slice q' n1 c') (vs.drop m) ∧ Below w.heap.size w w') := by
  subst hn1
  have hl := h.own.len
  have hnone : x.eq = none → x.el = 0 ∧ x.ec = 0 := fun e => by
    obtain ⟨_, ⟨he, h0⟩ | ⟨g, cap, cur, he, _⟩⟩ := h.own
    · simp only [Value.slice.injEq] at he
      exact ⟨he.2.1, he.2.2⟩
    · simp only [Value.slice.injEq] at he
      rw [e] at he
      cases he.1
  refine clone_slices q1 (x.el - m) c1 (vs.drop m) w (by rw [List.length_drop, ← hl]) (fun v hv => ?_) (fun hn => ?_) (fun ad had => ?_) (by omega)
  · obtain ⟨i, hi⟩ := List.mem_iff_getElem?.1 (List.mem_of_mem_drop hv)
    obtain ⟨f, hf⟩ : ∃ f, es[i]? = some f := ⟨_, List.getElem?_eq_getElem (by rw [← h.len]; exact (List.getElem?_eq_some_iff.1 hi).1)⟩
    obtain ⟨q3, n3, c3, e3, hl3⟩ := (h.ent i v f hi hf).lies
    rw [e3]
    rfl
  · have hx : x.eq = none := by
      rcases hq with ⟨hq, _⟩ | hq
      · rw [← hq]; exact hn
      · cases he : x.eq with
        | none => rfl
        | some a => rw [he, hn] at hq; cases hq
    have := hnone hx
    omega
  · obtain ⟨a0, ha0⟩ : ∃ a0, x.eq = some a0 := by
      cases he : x.eq with
      | none => rw [he, had] at hq; rcases hq with ⟨hq, _⟩ | hq <;> cases hq
      | some a => exact ⟨a, rfl⟩
    have hfar := (h.own.far a0 ha0).2
    rw [ha0, had] at hq
    rcases hq with ⟨hq, hem⟩ | hq
    · cases hq
      refine ⟨hfar, fun j u hu => ?_⟩
      rw [List.getElem?_drop] at hu
      have h1 := (List.getElem?_eq_some_iff.1 hu).1
      obtain ⟨g, _, _, _, hnc, _⟩ := h.own.at (by omega)
      omega
    · have hq2 : ad = a0.add m := by simpa using hq
      subst hq2
      refine ⟨by rw [add_block]; exact hfar, fun j u hu => ?_⟩
      rw [List.getElem?_drop] at hu
      have h1 := (List.getElem?_eq_some_iff.1 hu).1
      obtain ⟨g, hg, _, _, _, hcell, _⟩ := h.own.at (by omega)
      rw [ha0] at hg
      have hg2 : a0 = ⟨g, 0, none⟩ := by simpa using hg
      subst hg2
      rw [Addr.add_add]
      rw [add_flat]
      exact hcell (m + j) u hu

set_option maxRecDepth 100000 in
set_option maxHeartbeats 1000000 in
theorem cut_ok (rg : Nat) (p : Pl) (d d' : Dk) (x : RgV) (vs : List Value) (es : List (List UInt8)) (note0 note : List UInt8) (m : Nat) (nq : Option Addr) (nc : Nat) (w : World) (h : RgOn w rg p d x vs es note0) (hbr : x.br = false) (hm : m ≤ x.el) (hel : x.el ≤ 1000) (hes : ∀ e ∈ es, e.length ≤ 8000)
    (hg : gone es es.length ≤ 1000) (ht : x.turn < 1073741823) (hn : note.length ≤ 32) (he : Ent 0 w (.slice nq note.length nc) note) (hs : x.size < 10000) (hp : x.place < 10000) (hfst : x.first ≤ 1099511627775) (hu : x.used < 100000) (hgu : gone es m ≤ x.used) (h0 : 0 ≤ d.ops) (h1 : d.ops < 1152921504606846976)
    (hlay : layAll d [[(((x.turn + 1) % 2 : Nat), pad (headB (x.turn + 1) x.size (x.first + m) (wrapAt x.size x.place (gone es m)) note))]] = (0, d')) :
    Calls Tryz.prog 19 #[.pointer (some ⟨rg, 0, none⟩), .int .i64 m, .slice nq note.length nc] w (fun e' w' => e' = .returned (.int .i64 0) ∧ ∃ x', RgOn w' rg p d' x' (vs.drop m) (es.drop m) note ∧
      x'.turn = x.turn + 1 ∧ x'.size = x.size ∧ x'.first = x.first + m ∧ x'.place = wrapAt x.size x.place (gone es m) ∧ x'.used = x.used - gone es m ∧ x'.br = x.br ∧ Up rg p.L w w') := by
  obtain ⟨nl, hne⟩ : ∃ nl, note.length = nl := ⟨_, rfl⟩
  obtain ⟨f1, hf1⟩ : ∃ f1, x.first + m = f1 := ⟨_, rfl⟩
  obtain ⟨pl, hpl⟩ : ∃ pl, wrapAt x.size x.place (gone es m) = pl := ⟨_, rfl⟩
  rw [hf1, hpl] at hlay
  have hwu : IntKind.u64.wrap ((x.first : Int) + (m : Int)) = (f1 : Nat) := by rw [IntKind.wrap_u64]; omega
  have hpb := fun u => placeBehind_any x.turn x.size f1 x.place (gone es m) x.nq x.nl x.nc u (by omega) (by have := gone_mono es m; omega) (by omega)
  rw [hpl] at hpb
  have hmv := fun (W : World) (q : Option Addr) (c : Nat) (hW : RgOn W rg p d x vs es note0) (hE : Ent (rg + 1) W (.slice q note.length c) note) (hap : ∀ a, x.eq = some a → ∀ b, q = some b → b.block ≠ a.block) =>
    move_ok rg p d d' x vs es note0 note x.turn x.size f1 pl q c W hW hn (by omega) hE hap h0 h1 hlay
  rw [hne] at hmv
  have hcn : ∀ W, Below w.heap.size w W → Calls Tryz.prog 59 #[.slice nq nl nc] W (ClonePost W note) := fun W hW => clone nq nl nc note W (by rw [← hne]; exact (he.keep hW.size (fun a _ _ _ _ h => hW.block _ h)).holds) (by omega)
  have hgu' : (gone es m : Int) ≤ x.used := by omega
  have c8 : w.cell? ⟨rg, 8, none⟩ = some (.bool false) := by rw [← hbr]; exact h.here.c8
  have c6 : w.cell? ⟨rg, 6, none⟩ = some (.slice x.eq x.el x.ec) := h.here.c6
  have c0 : w.cell? ⟨rg, 0, none⟩ = some (.int .u32 x.turn) := h.here.cell 0
  have hmc : m ≤ x.ec := by
    rcases Nat.eq_zero_or_pos x.el with h0 | h0
    · omega
    · obtain ⟨g, hq, hg1, hg2, hnc, _⟩ := h.own.at h0
      omega
  have k1 : ¬ ((m : Int) < 0) := by omega
  have k2 : ¬ ((x.el : Int) < m) := by omega
  have k3 : ¬ ((x.turn : Int) = 1073741824) := by omega
  have k4 : ¬ ((32 : Int) < nl) := by omega
  have k5 : (m : Int) ≤ x.ec := by omega
  have hh := Lib.hid h
  have hee := Lib.hid he
  have hes' := Lib.hid hes
  have hg' := Lib.hid hg
  have hpb' := Lib.hid hpb
  have hmv' := Lib.hid hmv
  have hcn' := Lib.hid hcn
  have hfs := Lib.hid (show x.first + m = f1 ∧ wrapAt x.size x.place (gone es m) = pl from ⟨hf1, hpl⟩)
  have hsec := fun (n : Nat) (hn : n ≤ 8000) (u : World) => sectors_any n u (by omega)
  clear h hes hg hlay hpb hmv hcn he hf1 hpl
  rw [hne] at hn ⊢
  go_enter Tryz.func19, Tryz.ntmps19
  go_wp2
  go_loopw [7, 51] (fun v7 v51 wr => ∃ i : Nat, i ≤ m ∧ v7 = .int .i64 (gone es i : Nat) ∧ v51 = .int .i64 i ∧ wr = w) (fun _ v51 _ => m - (intOf v51).toNat)
  case atStart => exact ⟨0, by omega, rfl, rfl, rfl⟩
  case round =>
    obtain ⟨i, hi, rfl, rfl, hwr⟩ := hrel
    obtain rfl := hwr.symm
    by_cases hlt : i < m
    · obtain ⟨g, hq, hg1, hg2, hnc, hcell, hfr, _⟩ := hh.out.own.at (by omega)
      have hc := hh.out.count
      have hl := hh.out.len
      obtain ⟨v, hv⟩ : ∃ v, vs[i]? = some v := ⟨_, List.getElem?_eq_getElem (by omega)⟩
      obtain ⟨e, he⟩ : ∃ e, es[i]? = some e := ⟨_, List.getElem?_eq_getElem (by omega)⟩
      have hen := hh.out.ent i v e hv he
      obtain ⟨q2, n2, c2, rfl, _⟩ := hen.lies
      have hc1 := hcell i _ hv
      have hn2 : n2 = e.length := holds_len hen.holds
      have h8 : n2 ≤ 8000 := by rw [hn2]; exact hes'.out e (List.mem_of_getElem? he)
      have hgn : gone es (i + 1) = gone es i + secs n2 := by rw [hn2]; exact gone_next he
      have hg1000 : gone es (i + 1) ≤ 1000 := Nat.le_trans (gone_mono es (i + 1)) hg'.out
      have hwp := Go.IntWalk.i64_in ((gone es i : Int) + secs n2) ⟨by omega, by omega⟩
      have hgn' := Lib.hid hgn
      rw [hq]
      clear hcell hfr hq hen hgn hc hl hn2
      go_wp2_with (go_at_call 15; refine (hsec _ h8 _).mono ?_; rintro e' w' ⟨rfl, hw'⟩; obtain rfl := hw'.symm)
      go_roundw
      case rel => exact ⟨i + 1, by omega, congrArg (fun z : Int => Value.int .i64 z) (by have := hgn'.out; omega), by go_num, trivial⟩
      case measure => simp [intOf]; omega
    · obtain rfl : m = i := by omega
      have hpart : Hid (∀ j v, (hdL x.turn x.size x.first x.place x.nq x.nl x.nc)[j]? = some v → w.cell? ((⟨rg, 0, none⟩ : Addr).add j) = some v) := RowV.part (o := 0) (pre := []) (rest := [x.dp, .slice x.eq x.el x.ec, .int .i64 x.used, .bool x.br]) hh.out.here rfl rfl
      clear hsec hes' c0 c6 c8
      have hpart2 : Hid (∀ j v, (hdL x.turn x.size x.first x.place x.nq x.nl x.nc)[j]? = some v → (w.alloc (.cells (hdL 0 0 0 0 none 0 0).toArray 94)).cell? ((⟨rg, 0, none⟩ : Addr).add j) = some v) := RowV.part (o := 0) (pre := []) (rest := [x.dp, .slice x.eq x.el x.ec, .int .i64 x.used, .bool x.br]) (RowV.below hh.out.here ((Below.refl _ _).alloc (Nat.le_refl _) _)) rfl rfl
      go_wp2_with (first
        | (with_reducible refine wpList_load_at rfl 94 (.tmp 63) rfl Tryz.underlying94 rfl (vs := hdL x.turn x.size x.first x.place x.nq x.nl x.nc) (size_head _ _ _ _ _ _ _) rfl hpart.out ?_)
        | (with_reducible refine wpList_load_at rfl 94 (.tmp 63) rfl Tryz.underlying94 rfl (vs := hdL x.turn x.size x.first x.place x.nq x.nl x.nc) (size_head _ _ _ _ _ _ _) rfl hpart2.out ?_)
        | (go_at_call 60
           refine (hpb'.out _).mono ?_
           rintro e2 w2 ⟨rfl, hb2⟩
           have hr2 : RowV 94 w2 w.heap.size (hdL x.turn x.size f1 x.place x.nq x.nl x.nc) := RowV.below (RowV.made w _) hb2
           have hB2 : Below w.heap.size w w2 := ((Below.refl _ _).alloc (Nat.le_refl _) _).trans (hb2.mono (by simp))
           have f2 := hr2.free 3
           have g2 : w2.cell? ⟨w.heap.size, 3, none⟩ = some (.int .i64 x.place) := hr2.cell 3
           have hr3 : Hid (RowV 94 (w2.setCell ⟨w.heap.size, 3, none⟩ (.int .i64 pl)) w.heap.size (hdL x.turn x.size f1 pl x.nq x.nl x.nc)) := hr2.set 3 _
           have hB3 : Hid (Below w.heap.size w (w2.setCell ⟨w.heap.size, 3, none⟩ (.int .i64 pl))) := hB2.setCell (Nat.le_refl _) _
           clear hb2 hr2 hB2)
        | (go_at_call 59
           refine (hcn'.out _ hB3.out).mono ?_
           rintro e4 w4 ⟨q4, c4, rfl, hnew, hb4⟩
           have hr4 : RowV 94 w4 w.heap.size (hdL x.turn x.size f1 pl x.nq x.nl x.nc) := RowV.below hr3.out hb4
           have f4 := hr4.free 4
           have g4 : w4.cell? ⟨w.heap.size, 4, none⟩ = some (.slice x.nq x.nl x.nc) := hr4.cell 4
           have g40 : w4.cell? ⟨w.heap.size, 0, none⟩ = some (.int .u32 x.turn) := hr4.cell 0
           have g41 : w4.cell? ⟨w.heap.size, 1, none⟩ = some (.int .i64 x.size) := hr4.cell 1
           have g42 : w4.cell? ⟨w.heap.size, 2, none⟩ = some (.int .u64 f1) := hr4.cell 2
           have g43 : w4.cell? ⟨w.heap.size, 3, none⟩ = some (.int .i64 pl) := hr4.cell 3
           have hr5 : Hid (RowV 94 (w4.setCell ⟨w.heap.size, 4, none⟩ (.slice q4 nl c4)) w.heap.size (hdL x.turn x.size f1 pl q4 nl c4)) := hr4.set 4 _
           have hp5 : Hid (∀ j v, (hdL x.turn x.size f1 pl q4 nl c4)[j]? = some v → (w4.setCell ⟨w.heap.size, 4, none⟩ (.slice q4 nl c4)).cell? ((⟨w.heap.size, 0, none⟩ : Addr).add j) = some v) := RowV.part (o := 0) (pre := []) (rest := []) hr5.out (by simp) rfl
           have hx4 : Hid (Ent (rg + 1) (w4.setCell ⟨w.heap.size, 4, none⟩ (.slice q4 nl c4)) (.slice q4 nl c4) note ∧ Below w.heap.size w (w4.setCell ⟨w.heap.size, 4, none⟩ (.slice q4 nl c4)) ∧ ∀ a, x.eq = some a → ∀ b, q4 = some b → b.block ≠ a.block) := by
             have hs0 := hh.out.size
             have hs3 := hB3.out.size
             have hs3' : w.heap.size < (w2.setCell ⟨w.heap.size, 3, none⟩ (.int .i64 pl)).heap.size := RowV.lt hr3.out
             have h4 := Ent.of_new (B := w.heap.size + 1) hnew (by omega)
             have hg4 := setCell_grown w4 w.heap.size 4 (.slice q4 nl c4)
             have h5 := h4.keep (w' := w4.setCell ⟨w.heap.size, 4, none⟩ (.slice q4 nl c4)) hg4.size (fun a n c _ h6 h7 => hg4.block _ h7 (fun e => by have h8 : a.block = w.heap.size := (by simpa using e); omega))
             rw [hne] at h5 hnew
             refine ⟨⟨h5.holds, ?_⟩, (hB3.out.trans (hb4.mono hs3)).setCell (Nat.le_refl _) _, fun a ha b hb => ?_⟩
             · obtain ⟨q6, n6, c6', e6, h6⟩ := h5.lies
               exact ⟨q6, n6, c6', e6, fun a ha => ⟨by have := (h6 a ha).1; omega, (h6 a ha).2⟩⟩
             · have h8 := (hh.out.own.far a ha).2
               subst hb
               have h9 := (hnew.2 b nl c4 rfl).1
               omega
           clear hnew hb4 hr4)
        | (with_reducible refine wpList_load_at rfl 94 (.tmp 10) rfl Tryz.underlying94 rfl (vs := hdL x.turn x.size f1 pl q4 nl c4) (size_head _ _ _ _ _ _ _) rfl hp5.out ?_)
        | (go_at_call 55
           refine (hmv'.out _ q4 c4 (hh.out.below hx4.out.2.1) hx4.out.1 hx4.out.2.2).mono ?_
           rintro e6 w6 ⟨rfl, hr6, hu6⟩
           have c66 : w6.cell? ⟨rg, 6, none⟩ = some (.slice x.eq x.el x.ec) := hr6.here.c6
           have hr6' := Lib.hid hr6
           have hu6' := Lib.hid hu6
           clear hr6 hu6)
        | (go_at_call 61
           refine (clone_rest hr6'.out m hm (by exact hel) _ _ _ (by first | exact .inl ⟨rfl, by assumption⟩ | exact .inl ⟨rfl, by show x.ec = m; omega⟩ | exact .inr rfl) rfl (by show _ = x.ec - m; omega)).mono ?_
           rintro e7 w7 ⟨q7, c7, rfl, ho7, hb7⟩
           have hr7 := hr6'.out.below hb7
           have c67 : w7.cell? ⟨rg, 6, none⟩ = some (.slice x.eq x.el x.ec) := hr7.here.c6
           have c77 : w7.cell? ⟨rg, 7, none⟩ = some (.int .i64 x.used) := hr7.here.c7
           have f67 := RowV.free hr7.here 6
           have f77 := RowV.free hr7.here 7
           have hwp := Go.IntWalk.i64_in ((x.used : Int) - (gone es m : Nat)) ⟨by omega, by omega⟩
           have hr7' := Lib.hid hr7.here
           have ho7' := Lib.hid ho7
           have hb7' := Lib.hid hb7
           clear hr7 ho7 hb7))
      all_goals
        go_ret
        have e4 : ((x.used - gone es m : Nat) : Int) = (x.used : Int) - (gone es m : Nat) := by omega
        rw [← e4]
        have s6 := setCell_grown w7 rg 6 (.slice q7 (x.el - m) c7)
        have s7 := setCell_grown (w7.setCell ⟨rg, 6, none⟩ (.slice q7 (x.el - m) c7)) rg 7 (.int .i64 ((x.used - gone es m : Nat) : Int))
        have hgr : w7.grownBy ((w7.setCell ⟨rg, 6, none⟩ (.slice q7 (x.el - m) c7)).setCell ⟨rg, 7, none⟩ (.int .i64 ((x.used - gone es m : Nat) : Int))) (some rg) :=
          ⟨s7.os.trans s6.os, s7.tape.trans s6.tape, s7.output.trans s6.output, Nat.le_trans s6.size s7.size, fun k hk hk2 => (s7.block k (Nat.lt_of_lt_of_le hk s6.size) hk2).trans (s6.block k hk hk2)⟩
        have hr8 : RgAt ((w7.setCell ⟨rg, 6, none⟩ (.slice q7 (x.el - m) c7)).setCell ⟨rg, 7, none⟩ (.int .i64 ((x.used - gone es m : Nat) : Int))) rg { turn := x.turn + 1, size := x.size, first := f1, place := pl, nq := q4, nl := nl, nc := c4, dp := x.dp, eq := q7, el := x.el - m, ec := c7, used := x.used - gone es m, br := x.br } :=
          RowV.set (RowV.set hr7'.out 6 (.slice q7 (x.el - m) c7)) 7 (.int .i64 ((x.used - gone es m : Nat) : Int))
        have z6 := hr6'.out.size
        have z7 := hb7'.out.size
        refine ⟨rfl, _, RgOn.less hr6'.out m ho7'.out hb7'.out hgr hr8 ⟨rfl, rfl, rfl, rfl, rfl, rfl, rfl⟩, rfl, rfl, hfs.out.1.symm, hfs.out.2.symm, rfl, rfl, ?_⟩
        exact ((Up.of_below p.L hx4.out.2.1 (by have := hh.out.size; omega)).trans hu6'.out).trans ((Up.of_below p.L hb7'.out (by omega)).trans (Up.grown p.L hgr (by omega) (fun k e => by cases e; exact Nat.le_refl _)))

end Go.Proofs.YtjhnagipagkhiaaGreat
