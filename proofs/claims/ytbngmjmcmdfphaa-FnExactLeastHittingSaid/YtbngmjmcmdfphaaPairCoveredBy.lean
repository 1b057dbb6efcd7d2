/- Both sides of CoveredBy, IsCover and CostOf answer alike. Condition: System and choice read as such. -/
import Derived.Test.YtbngmjmcmdfphaaCovered
import Derived.Deep.RegionHeld3
namespace Go.Proofs.Ytbngmjmcmdfphaa
open Go.RowKit Go.Shelf

/-- The cells of a System's variable, and that all old blocks stand. -/
theorem sys_cells {W : World} {g : Nat} {x y z : Value} {t : TypeId} (h : Box3 W g x y z t) (u : World) (hu : Below W.heap.size W u) :
    (u.cell? ⟨g, 0, none⟩ = some x ∧ u.cell? ⟨g, 1, none⟩ = some y ∧ u.cell? ⟨g, 2, none⟩ = some z) ∧ Below W.heap.size W u := ⟨⟨(h.on hu).c0, (h.on hu).c1, (h.on hu).c2⟩, hu⟩
theorem empty_row (w : World) : ∃ t : Row, Value.slice (some ⟨w.heap.size, 0, none⟩) 0 0 = .slice t.a t.l.length t.c ∧ t.l = [] ∧ t.Own 3 (w.alloc (.cells #[] 3)) ∧ t.In w.heap.size (w.alloc (.cells #[] 3)).heap.size (w.alloc (.cells #[] 3)) :=
  row_of_own (l := []) (empty_own w)
theorem twoS_like {S U : Sys} {c e : Row} (hl : U.Like S) (he : e.l = c.l) : twoS U e.l = twoS S c.l := by unfold twoS; rw [hl.good, hl.2.2, he]

end Go.Proofs.Ytbngmjmcmdfphaa
