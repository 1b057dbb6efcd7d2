/- The contracts of the tests of sets of sites, on both sides. Condition: Field and set read as such. -/
import Derived.Test.YtemflcegkebloaaGood
import Derived.Test.YtemflcegkebloaaPlainServe
namespace Go.Proofs.Ytemflcegkebloaa
open Go.RowKit

/-- A Field that has been laid as a function's own variable. -/
theorem laid_fld (F : Fld) (w : World) (t : TypeId) (hF : F.At w) : ∃ wA, wA = w.alloc (Obj.cells #[F.o.val, F.t.val] t) ∧ Below w.heap.size w wA ∧ Box2 wA w.heap.size F.o.val F.t.val t ∧ F.At wA ∧ wA.heap.size = w.heap.size + 1 :=
  ⟨_, rfl, below_alloc _ _, Box2.made _ _ _ _, hF.on (below_alloc _ _), size_alloc _ _⟩

end Go.Proofs.Ytemflcegkebloaa
