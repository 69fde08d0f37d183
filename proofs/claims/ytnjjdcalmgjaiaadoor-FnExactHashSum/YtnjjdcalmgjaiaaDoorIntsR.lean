/- Rows of ints that came in. -/
import Derived.Test.YtnjjdcalmgjaiaaDoorIntsH
namespace Go.Proofs.YtnjjdcalmgjaiaaDoor
open Go.ChangeShapes Go.WideShapes Go.ChangeAt Go.RowKit

end Go.Proofs.YtnjjdcalmgjaiaaDoor
