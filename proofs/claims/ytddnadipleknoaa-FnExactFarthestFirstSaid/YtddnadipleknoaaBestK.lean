/- The contract of the model's median. Condition: a valid Field. -/
import Derived.Test.YtddnadipleknoaaPlainLeast
import Derived.Test.YtddnadipleknoaaSetsOf
namespace Go.Proofs.Ytddnadipleknoaa
open Go.RowKit

/-- The service of a set of sites. -/
def servT (F : Fld) (T : List Nat) : Int := (lens F.t.con T).sum
theorem servT_bounds {F : Fld} (h : F.good = true) (T : List Nat) : 0 ≤ servT F T ∧ servT F T ≤ 693 := by
  have h1 := sum_bound (lens_bound h T)
  rw [lens_length] at h1
  have := good_sizes h
  unfold servT; omega
/-- The best row so far. -/
structure Best1 (B : Nat) (w : World) (y : Row) (T : List Nat) : Prop where
  l : y.l = up T
  own : y.Own 3 w
  ins : y.In B w.heap.size w
theorem Best1.on {B : Nat} {w w' : World} {y : Row} {T : List Nat} (h : Best1 B w y T) (t : Below w.heap.size w w') : Best1 B w' y T := ⟨h.l, h.own.on t, (h.ins.on t).wide (Nat.le_refl _) t.size⟩

end Go.Proofs.Ytddnadipleknoaa
