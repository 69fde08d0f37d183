/- The draws of lengths and of names. -/
import Derived.Test.YtefopoefknckcaaRdK
namespace Go.Proofs.Ytefopoefknckcaa
open Go.ChangeShapes Go.WideShapes Go.ChangeAt Go.RowKit

theorem drawPlanFor (a : Option Addr) (len cap : Nat) (zs : List Int) (w : World) (h : Bytes w a len cap zs) :
    Calls Try.prog 5 #[.slice a len cap] w fun e w' => ∃ n : Int, e = .returned (.int .i64 n) ∧ -1 ≤ n ∧ n ≤ 400 ∧ Below w.heap.size w w' := by
  go_enter Try.func5, Try.ntmps5
  go_wp2_with fail
  refine (l1Open_any a len cap zs _ h).mono ?_
  rintro e w1 ⟨rfl, hr1, hb1⟩
  go_wp2_with fail
  refine (pick_any w.heap.size 0 256 _ hr1 (by omega) (by omega) (by omega)).mono ?_
  rintro e w2 ⟨r2, rfl, r2a, r2b, hr2, ht2⟩
  go_wp2_with fail
  refine (pick_any w.heap.size (0 + 1) 60 _ hr2 (by omega) (by omega) (by omega)).mono ?_
  rintro e w3 ⟨r3, rfl, r3a, r3b, hr3, ht3⟩
  go_wp2_with fail
  go_ret
  exact ⟨_, rfl, by omega, by omega, (hb1.trans (ht2.below (Nat.le_refl _))).trans (ht3.below (Nat.le_refl _))⟩
end Go.Proofs.Ytefopoefknckcaa
