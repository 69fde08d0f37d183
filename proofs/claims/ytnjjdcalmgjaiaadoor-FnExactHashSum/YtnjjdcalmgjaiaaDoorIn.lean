/- The model's test 'in limits', by its answer. -/
import Derived.Test.YtnjjdcalmgjaiaaDoorBase
namespace Go.Proofs.YtnjjdcalmgjaiaaDoor
open Go.ChangeShapes Go.WideShapes Go.ChangeAt Go.RowKit

end Go.Proofs.YtnjjdcalmgjaiaaDoor
