/- Both sides of IsSeason answer alike. Condition: the Season reads as such. -/
import Derived.Test.YtifgmbljimfebaaSeaGood
import Derived.Test.YtifgmbljimfebaaSeaPost
namespace Go.Proofs.Ytifgmbljimfebaa
open Go.RowKit
end Go.Proofs.Ytifgmbljimfebaa
