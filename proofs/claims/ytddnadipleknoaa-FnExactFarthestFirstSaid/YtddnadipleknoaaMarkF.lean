/- The contracts of the laws' marking of Fields. Condition: the memory is the call's own, the numbers are small. -/
import Derived.Test.YtddnadipleknoaaMarkI
namespace Go.Proofs.Ytddnadipleknoaa
open Go.RowKit

/-- A Field that is marked from k on. -/
def Fld.Marked (lo hi k : Nat) (w : World) (F : Fld) : Prop :=
  (F.o.mark k).In lo hi w ∧ Part lo hi (k + F.o.l.length) F.t.R.length F.t.R w ∧ RowIn lo hi w F.t.a F.t.c (tv F.t.R)
theorem Part.touch {lo hi k i p q : Nat} {R : List Row} {w w' : World} (h : Part lo hi k i R w) (t : Touch p q w w') (hn : hi ≤ p ∨ q ≤ lo) : Part lo hi k i R w' :=
  fun j hj => ⟨(h j hj).1.touch t hn, (h j hj).2.touch (h j hj).1 t hn⟩
theorem Part.on {lo hi k i : Nat} {R : List Row} {w w' : World} (h : Part lo hi k i R w) (t : Below w.heap.size w w') : Part lo hi k i R w' :=
  fun j hj => ⟨(h j hj).1.on t, (h j hj).2.on t⟩
theorem Part.at {lo hi k : Nat} {R : List Row} {w : World} (h : Part lo hi k R.length R w) : ∀ j (hj : j < R.length), (R[j].mark (k + tot ((R.map Row.l).take j))).At w := fun j hj => by
  have := (h j hj).1; rw [if_pos hj] at this; exact this.at
theorem Fld.Marked.on {lo hi k : Nat} {w w' : World} {F : Fld} (h : F.Marked lo hi k w) (t : Below w.heap.size w w') : F.Marked lo hi k w' := ⟨h.1.on t, h.2.1.on t, h.2.2.on t⟩
theorem Fld.Marked.touch {lo hi k p q : Nat} {w w' : World} {F : Fld} (h : F.Marked lo hi k w) (t : Touch p q w w') (hn : hi ≤ p ∨ q ≤ lo) : F.Marked lo hi k w' := ⟨h.1.touch t hn, h.2.1.touch t hn, h.2.2.touch t hn⟩

end Go.Proofs.Ytddnadipleknoaa
