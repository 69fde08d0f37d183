/- Sizes that may be, by the program. -/
import Derived.Test.YtfciopjcbeccgaaDoorG1
namespace Go.Proofs.YtfciopjcbeccgaaDoor
open Go.ChangeShapes Go.WideShapes Go.ChangeAt Go.RowKit

set_option maxRecDepth 100000 in
theorem sizesOk_yes (c s : Int) (w : World) (h1 : 1 ≤ c ∧ c ≤ 24) (h2 : 1 ≤ s ∧ s ≤ 16) :
    Calls Tryd.prog 48 #[.int .i64 c, .int .i64 s] w fun e w' => e = .returned (.bool true) ∧ w' = w := by
  obtain ⟨h3, h4⟩ := h1
  obtain ⟨h5, h6⟩ := h2
  go_enter Tryd.func48, Tryd.ntmps48
  go_wp2
  go_ret
  exact ⟨rfl, rfl⟩

set_option maxRecDepth 100000 in
theorem sizesOk_no (c s : Int) (w : World) (h : ¬ ((1 ≤ c ∧ c ≤ 24) ∧ 1 ≤ s ∧ s ≤ 16)) :
    Calls Tryd.prog 48 #[.int .i64 c, .int .i64 s] w fun e w' => e = .returned (.bool false) ∧ w' = w := by
  by_cases h1 : 1 ≤ c
  · by_cases h2 : c ≤ 24
    · by_cases h3 : 1 ≤ s
      · have h4 : decide (s ≤ 16) = false := by simp; omega
        clear h
        go_enter Tryd.func48, Tryd.ntmps48
        go_wp2
        go_ret
        exact ⟨rfl, rfl⟩
      · have h4 : decide (1 ≤ s) = false := by simp; omega
        clear h h3
        go_enter Tryd.func48, Tryd.ntmps48
        go_wp2
        go_ret
        exact ⟨rfl, rfl⟩
    · have h4 : decide (c ≤ 24) = false := by simp; omega
      clear h h2
      go_enter Tryd.func48, Tryd.ntmps48
      go_wp2
      go_ret
      exact ⟨rfl, rfl⟩
  · have h4 : decide (1 ≤ c) = false := by simp; omega
    clear h h1
    go_enter Tryd.func48, Tryd.ntmps48
    go_wp2
    go_ret
    exact ⟨rfl, rfl⟩
end Go.Proofs.YtfciopjcbeccgaaDoor
