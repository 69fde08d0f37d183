/- Sums: bits turned, constants; a text as whole blocks, by the model and by the program. -/
import Derived.Test.YtnjjdcalmgjaiaaDoorHsM
import Derived.Test.YtnjjdcalmgjaiaaDoorCmn
import Derived.Test.YtnjjdcalmgjaiaaDoorBlk
import Derived.BigQuiet
namespace Go.Proofs.YtnjjdcalmgjaiaaDoor
open Go.ChangeShapes Go.WideShapes Go.ChangeAt Go.RowKit

set_option maxRecDepth 100000 in
theorem l1Turn_any (x : Int) (n : Nat) (w : World) (h0 : 0 < n) (h1 : n < 32) :
    Calls Tryd.prog 59 #[.int .u32 x, .int .i64 n] w fun e w' => e = .returned (.int .u32 (rotR x n)) ∧ Dr w w' := by
  go_enter Tryd.func59, Tryd.ntmps59
  go_wp2_with fail
  go_quiet (fail)
  go_wp2_with fail
  go_ret
  exact ⟨rfl, _, rfl⟩
theorem l1Turn_at (x k : Int) (n : Nat) (w : World) (h0 : 0 < n) (h1 : n < 32) (hk : k = n) :
    Calls Tryd.prog 59 #[.int .u32 x, .int .i64 k] w fun e w' => e = .returned (.int .u32 (rotR x n)) ∧ Below w.heap.size w w' := by
  subst hk
  exact (l1Turn_any x n w h0 h1).mono fun e w' ⟨he, hd⟩ => ⟨he, hd.below _⟩
theorem rot_amount : ∀ n : Fin 32, 0 < n.val → bits .and .u64 (IntKind.u64.wrap (-((n.val : Nat) : Int))) 31 = ((32 - n.val : Nat) : Int) := by decide +kernel
set_option maxRecDepth 100000 in
theorem rotl_any (x k : Int) (n : Nat) (w : World) (h0 : 0 < n) (h1 : n < 32) (hk : k = -(n : Int)) :
    Calls Tryd.prog 46 #[.int .u32 x, .int .i64 k] w fun e w' => e = .returned (.int .u32 (rotR x n)) ∧ w' = w := by
  have hb : bits .and .u64 (IntKind.u64.wrap k) 31 = ((32 - n : Nat) : Int) := by rw [hk]; exact rot_amount ⟨n, h1⟩ h0
  have e1 : (32 : Int) - ((32 - n : Nat) : Int) = n := by omega
  clear hk
  go_enter Tryd.func46, Tryd.ntmps46
  go_wp2_with fail
  go_ret
  exact ⟨ret_int (bits_comm_or _ _), rfl⟩
end Go.Proofs.YtnjjdcalmgjaiaaDoor
