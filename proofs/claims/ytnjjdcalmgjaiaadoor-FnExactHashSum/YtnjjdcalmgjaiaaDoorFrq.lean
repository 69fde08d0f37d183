/- A region that draws its order: reads first, then what lays memory in its order, one operation (an allocation) anywhere among them, then the rest. -/
import Derived.Test.YtnjjdcalmgjaiaaDoorFrp
namespace Go.Proofs.YtnjjdcalmgjaiaaDoor
open Go.ChangeShapes Go.WideShapes Go.ChangeAt Go.RowKit Go.Sort

section
variable {P : Program} {ops : Array Oper} {md : Region.Mode} {Q : Exit → Act → World → Prop} {C : World → Prop} {c : Nat}

end

end Go.Proofs.YtnjjdcalmgjaiaaDoor
