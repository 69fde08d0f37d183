/- At every text the program's sum is the model's: the walk of the law. -/
import Derived.Test.YtnjjdcalmgjaiaaDoorHsN
import Derived.Test.YtnjjdcalmgjaiaaDoorHsI
namespace Go.Proofs.YtnjjdcalmgjaiaaDoor
open Go.ChangeShapes Go.WideShapes Go.ChangeAt Go.RowKit

set_option maxHeartbeats 1000000 in
set_option maxRecDepth 100000 in
theorem walk_FnExactHashSum (s : ByteArray) (w : World) (hk : HKT w) :
    Calls Tryd.prog 4 #[.string s] w fun e w' => e = .returned (.bool true) ∧ Below w.heap.size w w' := by
  have h0 := block_lt_of_cell (hk 0 (by omega))
  have HK := hid hk
  clear hk
  by_cases hs : s.size ≤ 1048576
  · go_enter Tryd.func4, Tryd.ntmps4
    go_wp2_with fail
    refine (specHashSum_any s w (by omega)).mono ?_
    rintro _ wa ⟨rfl, ba⟩
    go_wp2_with fail
    refine (implHashSum_any s wa (by omega) (HK.out.below h0 ba)).mono ?_
    rintro _ wb ⟨rfl, bb⟩
    go_wp2_with fail
    go_ret
    exact ⟨rfl, u_cat ba bb⟩
  · have hs2 : 1048576 < s.size := by omega
    clear hs
    go_enter Tryd.func4, Tryd.ntmps4
    go_wp2_with fail
    go_ret
    exact ⟨rfl, Below.refl _ _⟩
end Go.Proofs.YtnjjdcalmgjaiaaDoor
