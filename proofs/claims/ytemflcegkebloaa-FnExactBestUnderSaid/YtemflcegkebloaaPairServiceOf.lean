/- Both sides of ServiceOf answer alike. Condition: Field and set read as such. -/
import Derived.Test.YtemflcegkebloaaServe
namespace Go.Proofs.Ytemflcegkebloaa
open Go.RowKit
theorem fine_like {F G : Fld} {s t : Row} {T : List Nat} (h : Fine F s T) (hl : G.Like F) (hs : t.l = s.l) : Fine G t T :=
  ⟨hl.good.trans h.good, hs.trans h.set, h.some, fun m hm => by rw [hl.1]; exact h.lt m hm⟩
end Go.Proofs.Ytemflcegkebloaa
