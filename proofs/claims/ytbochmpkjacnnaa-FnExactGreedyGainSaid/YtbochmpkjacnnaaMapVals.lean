/- The contracts of the mapping of a list of numbers by a function of the program, one for each such function. Condition: the list reads as such, the function has its contract. -/
import Derived.Test.YtbochmpkjacnnaaGrow
import Derived.Test.YtbochmpkjacnnaaClaims
namespace Go.Proofs.Ytbochmpkjacnnaa
open Go.RowKit

end Go.Proofs.Ytbochmpkjacnnaa
