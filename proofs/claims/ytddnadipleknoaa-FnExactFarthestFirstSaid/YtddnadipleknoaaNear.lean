/- The contracts of the search of the site that serves a client, on both sides. Condition: a valid Field and a set with at least one site. -/
import Derived.Test.YtddnadipleknoaaSets
import Derived.Deep.RegionHeld3
import Derived.Test.YtddnadipleknoaaPost
namespace Go.Proofs.Ytddnadipleknoaa
open Go.RowKit

end Go.Proofs.Ytddnadipleknoaa
