/- Both sides of IsSystem answer alike. Condition: the System reads as such. -/
import Derived.Test.YtbngmjmcmdfphaaSysGood
namespace Go.Proofs.Ytbngmjmcmdfphaa
open Go.RowKit
end Go.Proofs.Ytbngmjmcmdfphaa
