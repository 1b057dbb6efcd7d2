/- The contracts of the picking of places, one for each function that picks. Condition: the list reads as such, and the picking function has its contract. -/
import Derived.Test.YtjabdcallfipeaaRest
namespace Go.Proofs.Ytjabdcallfipeaa
open Go.RowKit

end Go.Proofs.Ytjabdcallfipeaa
