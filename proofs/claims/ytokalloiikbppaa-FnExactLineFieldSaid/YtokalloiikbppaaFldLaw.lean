/- The reading back of a Field's marks, as a law's walk takes it. Condition: it is marked. -/
import Derived.Test.YtokalloiikbppaaHeldF
import Derived.Test.YtokalloiikbppaaPost
namespace Go.Proofs.Ytokalloiikbppaa
open Go.RowKit

theorem heldFld_law (F : Fld) (k q : Nat) (w : World) (lo hi : Nat) (hF : F.Marked lo hi k w) (hs : F.Small) (hk : k ≤ 3145728) (hq : q = k + F.o.l.length + tot F.t.con) :
    Calls Try.prog 25 #[.agg #[.slice F.o.a F.o.l.length F.o.c, .slice F.t.a F.t.R.length F.t.c], .int .i64 k] w fun e w' => e = .returned (.int .i64 (q : Int)) ∧ Below w.heap.size w w' := by
  subst hq
  exact heldFld_any F k w lo hi hF hs hk

end Go.Proofs.Ytokalloiikbppaa
