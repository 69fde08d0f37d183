/- Plans: what is ok by the program. -/
import Derived.Test.YtnjjdcalmgjaiaaDoorPlan
namespace Go.Proofs.YtnjjdcalmgjaiaaDoor
open Go.ChangeShapes Go.WideShapes Go.ChangeAt Go.RowKit

theorem IntsAt.alloc {w : World} {a : Option Addr} {xs : List Int} (h : IntsAt w a xs) (o : Obj) : IntsAt (w.alloc o) a xs := h.below (below_alloc' w o)

end Go.Proofs.YtnjjdcalmgjaiaaDoor
