/- The walk of the law on blocks. -/
import Derived.Test.YtbkhdiodadjgjaaBlkB
namespace Go.Proofs.Ytbkhdiodadjgjaa
open Go.ChangeShapes Go.WideShapes Go.ChangeAt Go.RowKit

theorem walk_FnExactBlockXor (a0 : ByteArray) (a1 : ByteArray) (w : World) (w0 : a0.size ≤ maxLen) (w1 : a1.size ≤ maxLen) :
    Calls Try.prog 4 #[.string a0, .string a1] w fun e w' => e = .returned (.bool true) ∧ Below w.heap.size w w' := by
  have k0 := w0
  have k1 := w1
  unfold maxLen at k0 k1
  by_cases h0 : 1048576 < a0.size
  · have h0' : (1048576 : Int) < (a0.size : Int) := by omega
    clear w0 w1
    go_enter Try.func4, Try.ntmps4
    go_wp2
    go_ret
    exact ⟨rfl, Below.refl _ _⟩
  · have h0' : ¬ (1048576 : Int) < (a0.size : Int) := by omega
    by_cases h1 : 1048576 < a1.size
    · have h1' : (1048576 : Int) < (a1.size : Int) := by omega
      clear w0 w1
      go_enter Try.func4, Try.ntmps4
      go_wp2
      go_ret
      exact ⟨rfl, Below.refl _ _⟩
    · have h1' : ¬ (1048576 : Int) < (a1.size : Int) := by omega
      clear k0 k1 h0 h1
      go_enter Try.func4, Try.ntmps4
      go_wp2_with (first
        | (go_at_call 15; refine (specBlockXor_any a0 a1 _ w0).mono ?_; rintro e w2 ⟨rfl, hb2⟩)
        | (go_at_call 16; refine (implBlockXor_any a0 a1 _ w0).mono ?_; rintro e w3 ⟨rfl, hb3⟩))
      go_ret
      exact ⟨rfl, hb2.trans (hb3.mono hb2.size)⟩
end Go.Proofs.Ytbkhdiodadjgjaa
