/- Rows as lists and as bits: plain mathematics. -/
import Derived.Test.YtnjjdcalmgjaiaaDoorRowA
namespace Go.Proofs.YtnjjdcalmgjaiaaDoor
open Go.ChangeShapes Go.WideShapes Go.ChangeAt Go.RowKit

end Go.Proofs.YtnjjdcalmgjaiaaDoor
