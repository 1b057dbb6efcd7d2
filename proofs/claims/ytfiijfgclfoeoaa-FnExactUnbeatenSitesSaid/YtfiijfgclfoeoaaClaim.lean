/- The contracts of prices and claims, the model's side. Condition: Field and prices read as such. -/
import Derived.Test.YtfiijfgclfoeoaaPlainClaim
import Derived.IntWalk
import Derived.Deep.AppendLies
import Derived.Deep.RegionHeld3
namespace Go.Proofs.Ytfiijfgclfoeoaa
open Go.RowKit

end Go.Proofs.Ytfiijfgclfoeoaa
