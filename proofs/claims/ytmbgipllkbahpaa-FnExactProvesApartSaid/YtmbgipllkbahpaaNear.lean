/- The contracts of the search of the site that serves a client, on both sides. Condition: a valid Field and a set with at least one site. -/
import Derived.Test.YtmbgipllkbahpaaSets
import Derived.Deep.RegionHeld3
import Derived.Test.YtmbgipllkbahpaaPost
namespace Go.Proofs.Ytmbgipllkbahpaa
open Go.RowKit

end Go.Proofs.Ytmbgipllkbahpaa
