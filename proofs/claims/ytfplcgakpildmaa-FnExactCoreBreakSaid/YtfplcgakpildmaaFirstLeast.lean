/- The contract of the search of the first list with the least service, over an iterator of lists. Condition: a valid Field, and lists of its sites. -/
import Derived.Test.YtfplcgakpildmaaSizeSeq
import Derived.Test.YtfplcgakpildmaaBestK
namespace Go.Proofs.Ytfplcgakpildmaa
open Go.RowKit Go.Shelf
attribute [local go_sem] Oper.semAt_some

/-- What the search holds between two rounds. -/
structure Holds (B : Nat) (V w : World) (φ : List Nat → Int) (C : List (List Nat)) (k : Nat) (y : Row) (W : World) : Prop where
  b5 : Boxed W (B + 1 + 1) 22 (.slice y.a y.l.length y.c)
  b6 : Boxed W (B + 1 + 1 + 1) 3 (.int .i64 (if k = 0 then 9223372036854775807 else φ (firstB φ (C.take k))))
  b3 : W.heap[B]? = V.heap[B]?
  bl : Below B w W
  yl : y.l = up (firstB φ (C.take k))
  ge : y.Ge B
theorem Holds.keep {B M : Nat} {V w : World} {φ : List Nat → Int} {C : List (List Nat)} {k : Nat} {y : Row} {A A' : World} (h : Holds B V w φ C k y A) (hb : Below M A A') (hM : B + 1 + 1 + 1 + 1 ≤ M) : Holds B V w φ C k y A' :=
  ⟨(hb.block _ (by omega)).trans h.b5, (hb.block _ (by omega)).trans h.b6, (hb.block _ (by omega)).trans h.b3, h.bl.trans (hb.mono (by omega)), h.yl, h.ge⟩

end Go.Proofs.Ytfplcgakpildmaa
