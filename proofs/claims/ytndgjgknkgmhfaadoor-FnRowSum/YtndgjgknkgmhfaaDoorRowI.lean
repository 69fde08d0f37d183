/- What is a row, the program's own test. -/
import Derived.Test.YtndgjgknkgmhfaaDoorRow
namespace Go.Proofs.YtndgjgknkgmhfaaDoor
open Go.ChangeShapes Go.WideShapes Go.ChangeAt Go.RowKit

theorem implRowOk_in (a : Option Addr) (cap : Nat) (xs : List Int) (c : Int) (w : World) (ha : IntsAt w a xs) (hx : xs.length ≤ 1152921504606846976) :
    Calls Tryd.prog 9 #[.slice a xs.length cap, .int .i64 c] w fun e w' => e = .returned (.bool (rowOkB xs c)) ∧ w' = w := by
  by_cases h : 0 ≤ c ∧ c ≤ 24
  · have e : rowOkB xs c = ascB (-1) c xs := by simp [rowOkB, h]
    rw [e]
    obtain ⟨h1, h2⟩ := h
    clear e
    go_enter Tryd.func9, Tryd.ntmps9
    go_wp2_with (go_at_call 19; refine (rowSetOf_in a cap xs c _ ha hx h1 h2).mono ?_; rintro e w' ⟨rfl, rfl⟩)
    go_ret
    exact ⟨rfl, rfl⟩
  · have e : rowOkB xs c = false := by simp only [rowOkB, decide_eq_false h, Bool.false_and]
    rw [e]
    clear e
    go_enter Tryd.func9, Tryd.ntmps9
    go_wp2_with (go_at_call 19; refine (rowSetOf_out a xs.length cap c _ (by omega)).mono ?_; rintro e w' ⟨rfl, rfl⟩)
    go_ret
    exact ⟨rfl, rfl⟩
end Go.Proofs.YtndgjgknkgmhfaaDoor
