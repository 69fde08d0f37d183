/- Buckets that are the same, held against each other by the laws. -/
import Derived.Test.YtkfeghickboagaaBktL
namespace Go.Proofs.Ytkfeghickboagaa
open Go.ChangeShapes Go.WideShapes Go.ChangeAt Go.RowKit Go.Sort

theorem eqBucket_same (lv mo ra at' : Int) (w : World) :
    Calls Try.prog 12 #[.agg #[.int .i64 lv, .int .i64 mo, .int .i64 ra, .int .i64 at'], .agg #[.int .i64 lv, .int .i64 mo, .int .i64 ra, .int .i64 at']] w fun e w' => e = .returned (.bool true) ∧ Below w.heap.size w w' := by
  go_enter Try.func12, Try.ntmps12
  go_wp2
  go_ret
  exact ⟨rfl, below2 _ _ _⟩
end Go.Proofs.Ytkfeghickboagaa
