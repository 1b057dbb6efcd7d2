/- The contracts of the model's copies of lists and Fields. Condition: a valid Field. -/
import Derived.Test.YtbochmpkjacnnaaMapField
namespace Go.Proofs.Ytbochmpkjacnnaa
open Go.RowKit

end Go.Proofs.Ytbochmpkjacnnaa
