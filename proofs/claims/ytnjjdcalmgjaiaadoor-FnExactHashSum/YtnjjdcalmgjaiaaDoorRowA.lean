/- Rows: what is one, by the program. -/
import Derived.Test.YtnjjdcalmgjaiaaDoorIntsR
import Derived.Test.YtnjjdcalmgjaiaaDoorIn
import Derived.Laws.BitsAllLaws
namespace Go.Proofs.YtnjjdcalmgjaiaaDoor
open Go.ChangeShapes Go.WideShapes Go.ChangeAt Go.RowKit

end Go.Proofs.YtnjjdcalmgjaiaaDoor
