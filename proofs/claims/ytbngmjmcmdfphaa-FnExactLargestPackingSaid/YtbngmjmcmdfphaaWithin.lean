/- The contract of the test whether all numbers of a list are within a limit. Condition: the list reads as such. -/
import Derived.Test.YtbngmjmcmdfphaaGood
namespace Go.Proofs.Ytbngmjmcmdfphaa
open Go.RowKit

end Go.Proofs.Ytbngmjmcmdfphaa
