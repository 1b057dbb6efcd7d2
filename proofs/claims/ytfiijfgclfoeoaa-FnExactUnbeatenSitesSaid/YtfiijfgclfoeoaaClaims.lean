/- The contract of the model's list of claims. Condition: Field and prices read as such and are valid. -/
import Derived.Test.YtfiijfgclfoeoaaClaim
namespace Go.Proofs.Ytfiijfgclfoeoaa
open Go.RowKit

theorem row_of_ownN {w : World} {B n : Nat} {e : TypeId} {v : Value} {l : List Int} (hn : n = l.length) (h : w.ownsRow B e 1 v n (iv l)) : ∃ t : Row, v = .slice t.a t.l.length t.c ∧ t.l = l ∧ t.Own e w ∧ t.In B w.heap.size w := by subst hn; exact row_of_own h

end Go.Proofs.Ytfiijfgclfoeoaa
