/- What is in just one of two rows: there and back, either way round. -/
import Derived.Test.YtndgjgknkgmhfaaDoorXorB
namespace Go.Proofs.YtndgjgknkgmhfaaDoor

theorem xorR_asc {xs ys : List Int} (hx : ascB (-1) 24 xs = true) (hy : ascB (-1) 24 ys = true) : ascB (-1) 24 (xorR xs ys) = true := by
  rw [xorR_yes hx hy]; exact (xorM_both _ (Nat.le_refl _) hx hy).1
theorem xorR_mem {xs ys : List Int} (hx : ascB (-1) 24 xs = true) (hy : ascB (-1) 24 ys = true) (z : Int) : z ∈ xorR xs ys ↔ (z ∈ xs ∧ z ∉ ys ∨ z ∉ xs ∧ z ∈ ys) := by
  rw [xorR_yes hx hy]; exact (xorM_both _ (Nat.le_refl _) hx hy).2 z
theorem xorR_back {xs ys : List Int} (hx : ascB (-1) 24 xs = true) (hy : ascB (-1) 24 ys = true) : xorR (xorR xs ys) ys = xs := by
  refine asc_ext (xorR_asc (xorR_asc hx hy) hy) hx (fun z => ?_)
  rw [xorR_mem (xorR_asc hx hy) hy, xorR_mem hx hy]
  by_cases h1 : z ∈ xs <;> by_cases h2 : z ∈ ys <;> simp [h1, h2]
theorem xorR_swap {xs ys : List Int} (hx : ascB (-1) 24 xs = true) (hy : ascB (-1) 24 ys = true) : xorR ys xs = xorR xs ys := by
  refine asc_ext (xorR_asc hy hx) (xorR_asc hx hy) (fun z => ?_)
  rw [xorR_mem hx hy, xorR_mem hy hx]
  by_cases h1 : z ∈ xs <;> by_cases h2 : z ∈ ys <;> simp [h1, h2]
theorem xorR_has {xs ys : List Int} (hx : ascB (-1) 24 xs = true) (hy : ascB (-1) 24 ys = true) (z : Int) : (decide (z ∈ xorR xs ys) != (decide (z ∈ xs) != decide (z ∈ ys))) = false := by
  have := xorR_mem hx hy z
  by_cases h1 : z ∈ xs <;> by_cases h2 : z ∈ ys <;> simp [h1, h2, this]
end Go.Proofs.YtndgjgknkgmhfaaDoor
