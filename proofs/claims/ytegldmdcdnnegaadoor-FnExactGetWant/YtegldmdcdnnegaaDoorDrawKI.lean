/- RowDraw, the program's, of what is no count or seed. -/
import Derived.Test.YtegldmdcdnnegaaDoorDrawJ
namespace Go.Proofs.YtegldmdcdnnegaaDoor
open Go.ChangeShapes Go.WideShapes Go.ChangeAt Go.RowKit

set_option maxRecDepth 100000 in
theorem implRowDraw_out (c s : Int) (w : World) (h : ¬ ((1 ≤ c ∧ c ≤ 24) ∧ 0 ≤ s ∧ s ≤ 2147483647)) :
    Calls Tryd.prog 75 #[.int .i64 c, .int .i64 s] w fun e w' => ∃ v, e = .returned v ∧ w'.ownsRow w.heap.size 3 1 v ([] : List Int).length (([] : List Int).map (Value.int .i64)) ∧ Below w.heap.size w w' := by
  by_cases hs : 0 ≤ s ∧ s ≤ 2147483647
  · by_cases hc : c < 1
    · clear h
      go_enter Tryd.func75, Tryd.ntmps75
      go_wp2_with (go_at_call 95; refine (seedOf_in s _ hs.1 hs.2).mono ?_; rintro e w' ⟨rfl, hq⟩; replace hq := hq.symm; subst hq)
      go_ret
      exact ⟨_, rfl, World.ownsRow_nil _ _ _ _, Below.refl _ _⟩
    · have hc2 : (24 : Int) < c := by omega
      clear h
      go_enter Tryd.func75, Tryd.ntmps75
      go_wp2_with (go_at_call 95; refine (seedOf_in s _ hs.1 hs.2).mono ?_; rintro e w' ⟨rfl, hq⟩; replace hq := hq.symm; subst hq)
      go_ret
      exact ⟨_, rfl, World.ownsRow_nil _ _ _ _, Below.refl _ _⟩
  · have hs2 : s < 0 ∨ 2147483647 < s := by omega
    clear h hs
    go_enter Tryd.func75, Tryd.ntmps75
    go_wp2_with (go_at_call 95; refine (seedOf_out s _ hs2).mono ?_; rintro e w' ⟨rfl, hq⟩; replace hq := hq.symm; subst hq)
    go_ret
    exact ⟨_, rfl, World.ownsRow_nil _ _ _ _, Below.refl _ _⟩
end Go.Proofs.YtegldmdcdnnegaaDoor
