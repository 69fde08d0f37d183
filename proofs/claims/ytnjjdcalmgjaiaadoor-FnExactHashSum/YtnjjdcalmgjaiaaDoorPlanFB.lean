/- The plan for a length: what it is. -/
import Derived.Test.YtnjjdcalmgjaiaaDoorPlanI
import Derived.Test.YtnjjdcalmgjaiaaDoorQB
namespace Go.Proofs.YtnjjdcalmgjaiaaDoor
open Go.ChangeShapes Go.WideShapes Go.ChangeAt Go.RowKit Go.Sort

end Go.Proofs.YtnjjdcalmgjaiaaDoor
