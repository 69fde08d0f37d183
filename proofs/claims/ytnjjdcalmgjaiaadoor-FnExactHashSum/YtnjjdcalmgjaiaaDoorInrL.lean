/- In a round: reads, what lays memory, and stores, walked once. -/
import Derived.Test.YtnjjdcalmgjaiaaDoorInr
import Derived.Test.YtnjjdcalmgjaiaaDoorFrl
namespace Go.Proofs.YtnjjdcalmgjaiaaDoor
open Go.ChangeShapes Go.WideShapes Go.ChangeAt Go.RowKit Go.Sort

/-- The rest of the region, in a round, is walked plainly. -/
theorem class_of {w w' : World} (h : Below w.heap.size w w') : ∃ p : Regrown, w' = grow (redrawn w p.d) p.os := regrown_of_below h
theorem of_class {w w' : World} (h : ∃ p : Regrown, w' = grow (redrawn w p.d) p.os) : Below w.heap.size w w' := by
  obtain ⟨p, rfl⟩ := h
  exact below_regrown _ _ _
end Go.Proofs.YtnjjdcalmgjaiaaDoor
