/- The reach of a set without the greatest lengths: the program's side. Condition: a valid Field and a set of its sites. -/
import Derived.Test.YtjeodblaekdpkaaSortRow
import Derived.Test.YtjeodblaekdpkaaBestTot
import Derived.IntWalk
namespace Go.Proofs.Ytjeodblaekdpkaa
open Go.RowKit Go.Shelf

def partV (L : List Int) (z : Nat) : Int := if L.length ≤ z then 0 else (sortA L).getD (L.length - 1 - z) 0
def partT (F : Fld) (z : Nat) (T : List Nat) : Int := partV (lens F.t.con T) z
theorem partT_like {F G : Fld} (h : F.Like G) (z : Nat) : partT F z = partT G z := by funext T; unfold partT; rw [h.2]

end Go.Proofs.Ytjeodblaekdpkaa
