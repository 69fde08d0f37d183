/- Zero bytes, by the model. -/
import Derived.Test.YtcoofoiaaljpoaaMany
import Derived.Test.YtcoofoiaaljpoaaCmn
import Derived.SliceStrings
namespace Go.Proofs.Ytcoofoiaaljpoaa
open Go.ChangeShapes Go.WideShapes Go.ChangeAt Go.RowKit

set_option maxRecDepth 100000 in
theorem l3Zero_any (n : Nat) (w : World) (hn : n ≤ 1048576) :
    Calls Try.prog 25 #[.int .i64 n] w fun e w' => e = .returned (.string (rep n (strOfNums [0]))) ∧ Below w.heap.size w w' := by
  have hcv := run_convert_bytes_arg (P := Try.prog) (w.alloc (.cells #[.int .u8 0] 5)) 51 5 Try.underlying51 Try.underlying5 w.heap.size 0 1 1 [0] rfl (by
    intro i hi
    obtain rfl : i = 0 := by omega
    simp) 9 Try.underlying9
  go_enter Try.func25, Try.ntmps25
  go_wp2_with (go_at_call 32; refine (l1Many_any (strOfNums [0]) n _ (by omega) (by decide)).mono ?_; rintro e w' ⟨rfl, rfl⟩)
  go_ret
  exact ⟨rfl, u_b1 _ _⟩
end Go.Proofs.Ytcoofoiaaljpoaa
