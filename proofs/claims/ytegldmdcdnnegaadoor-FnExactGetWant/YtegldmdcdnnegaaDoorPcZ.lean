/- Zero bytes, by the model. -/
import Derived.Test.YtegldmdcdnnegaaDoorMany
import Derived.Test.YtegldmdcdnnegaaDoorCmn
import Derived.SliceStrings
namespace Go.Proofs.YtegldmdcdnnegaaDoor
open Go.ChangeShapes Go.WideShapes Go.ChangeAt Go.RowKit

theorem l3Zero_any (n : Nat) (w : World) (hn : n ≤ 1048576) :
    Calls Tryd.prog 42 #[.int .i64 n] w fun e w' => e = .returned (.string (rep n (strOfNums [0]))) ∧ Below w.heap.size w w' := by
  have hcv := run_convert_bytes_arg (P := Tryd.prog) (w.alloc (.cells #[.int .u8 0] 5)) 63 5 Tryd.underlying63 Tryd.underlying5 w.heap.size 0 1 1 [0] rfl (by
    intro i hi
    obtain rfl : i = 0 := by omega
    simp) 9 Tryd.underlying9
  go_enter Tryd.func42, Tryd.ntmps42
  go_wp2_with (go_at_call 67; refine (l1Many_any (strOfNums [0]) n _ (by omega) (by decide)).mono ?_; rintro e w' ⟨rfl, rfl⟩)
  go_ret
  exact ⟨rfl, u_b1 _ _⟩
end Go.Proofs.YtegldmdcdnnegaaDoor
