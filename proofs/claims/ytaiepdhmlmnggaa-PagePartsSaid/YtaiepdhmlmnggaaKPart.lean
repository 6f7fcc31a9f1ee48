/- The reader of codec: what a content has, by its Kind. -/
import Derived.Test.YtaiepdhmlmnggaaKEnc
namespace Go.Proofs.Ytaiepdhmlmnggaa
open Go.RowKit

structure ContD where
  kind : Int
  rows : List RowD
  kids : List KidD
/-- a content, by its kind and its two slices -/
structure ContOn (w : World) (k : Int) (rq : Option Addr) (rn rc : Nat) (kq : Option Addr) (kn kc : Nat) (c : ContD) : Prop where
  kind : k = c.kind
  rows : RowsOn w rq rn rc c.rows
  kids : KidsOn w kq kn kc c.kids
theorem ContOn.below {B : Nat} {w w' : World} {k : Int} {rq kq : Option Addr} {rn rc kn kc : Nat} {c : ContD} (h : ContOn w k rq rn rc kq kn kc c) (hb : Below B w w') (hB : w.heap.size ≤ B) : ContOn w' k rq rn rc kq kn kc c := ⟨h.kind, h.rows.below hb hB, h.kids.below hb hB⟩
theorem ContOn.gr {w w' : World} {k : Int} {rq kq : Option Addr} {rn rc kn kc g : Nat} {c : ContD} (h : ContOn w k rq rn rc kq kn kc c) (hg : w.grownBy w' (some g)) (h1 : ∀ a, rq = some a → a.block ≠ g) (h2 : ∀ a, kq = some a → a.block ≠ g) : ContOn w' k rq rn rc kq kn kc c := ⟨h.kind, h.rows.gr hg h1, h.kids.gr hg h2⟩
def zeroC : ContD := ⟨0, [], []⟩
theorem cont_one (k : Int) (rq : Option Addr) (rn rc : Nat) (kq : Option Addr) (kn kc : Nat) : ∀ v ∈ ([.int .i64 k, .slice rq rn rc, .slice kq kn kc] : List Value), v.oneCell' = true := by
  intro v hv
  simp only [List.mem_cons, List.not_mem_nil, or_false] at hv
  rcases hv with rfl | rfl | rfl <;> rfl
/-- what lies in new memory, or nowhere -/
def Far (B : Nat) (q : Option Addr) : Prop := ∀ a, q = some a → B ≤ a.block
theorem Far.none_ (B : Nat) : Far B none := fun a h => by cases h

end Go.Proofs.Ytaiepdhmlmnggaa
