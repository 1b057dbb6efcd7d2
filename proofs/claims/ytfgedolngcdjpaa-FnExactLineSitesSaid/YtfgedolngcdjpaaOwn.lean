/- The contracts of the model's copies of lists and Fields. Condition: a valid Field. -/
import Derived.Test.YtfgedolngcdjpaaMapField
namespace Go.Proofs.Ytfgedolngcdjpaa
open Go.RowKit

end Go.Proofs.Ytfgedolngcdjpaa
