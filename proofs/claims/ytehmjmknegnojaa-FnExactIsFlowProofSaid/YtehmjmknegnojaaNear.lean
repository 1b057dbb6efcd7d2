/- The contracts of the search of the site that serves a client, on both sides. Condition: a valid Field and a set with at least one site. -/
import Derived.Test.YtehmjmknegnojaaSets
import Derived.Deep.RegionHeld3
import Derived.Test.YtehmjmknegnojaaPost
namespace Go.Proofs.Ytehmjmknegnojaa
open Go.RowKit

end Go.Proofs.Ytehmjmknegnojaa
