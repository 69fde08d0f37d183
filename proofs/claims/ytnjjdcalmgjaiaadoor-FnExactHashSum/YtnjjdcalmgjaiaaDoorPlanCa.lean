/- What was appended to nothing; what is owned stays owned. -/
import Derived.Test.YtnjjdcalmgjaiaaDoorPlanFB
namespace Go.Proofs.YtnjjdcalmgjaiaaDoor
open Go.ChangeShapes Go.WideShapes Go.ChangeAt Go.RowKit Go.Sort

end Go.Proofs.YtnjjdcalmgjaiaaDoor
