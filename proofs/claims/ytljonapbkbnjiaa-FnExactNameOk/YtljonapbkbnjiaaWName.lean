/- The walk of the law on names. -/
import Derived.Test.YtljonapbkbnjiaaName
namespace Go.Proofs.Ytljonapbkbnjiaa
open Go.ChangeShapes Go.WideShapes Go.ChangeAt Go.RowKit

theorem walk_FnExactNameOk (a0 : ByteArray) (w : World) (w0 : a0.size ≤ maxLen) :
    Calls Try.prog 6 #[.string a0] w fun e w' => e = .returned (.bool true) ∧ Below w.heap.size w w' := by
  have k0 := w0
  unfold maxLen at k0
  by_cases h0 : 1048576 < a0.size
  · have h0' : (1048576 : Int) < (a0.size : Int) := by omega
    clear w0
    go_enter Try.func6, Try.ntmps6
    go_wp2
    go_ret
    exact ⟨rfl, Below.refl _ _⟩
  · have h0' : ¬ (1048576 : Int) < (a0.size : Int) := by omega
    clear k0 h0
    go_enter Try.func6, Try.ntmps6
    go_wp2_with (first
      | (go_at_call 19; refine (specNameOk a0 _ w0).mono ?_; rintro e w2 ⟨rfl, rfl⟩)
      | (go_at_call 20; refine (implNameOk a0 _ w0).mono ?_; rintro e w3 ⟨rfl, rfl⟩))
    go_ret
    exact ⟨rfl, Below.refl _ _⟩
end Go.Proofs.Ytljonapbkbnjiaa
