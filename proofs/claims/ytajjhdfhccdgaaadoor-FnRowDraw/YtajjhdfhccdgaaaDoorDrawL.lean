/- Of draws: numbers that are small. -/
import Derived.Test.YtajjhdfhccdgaaaDoorRdB
namespace Go.Proofs.YtajjhdfhccdgaaaDoor
open Go.ChangeShapes Go.WideShapes Go.ChangeAt Go.RowKit

theorem Rd.drew {w : World} {g p : Nat} (h : Rd w g p) : Rd w.drew g p := h.kept (Below.refl _ _).drew
theorem wrap_small (x : Int) (h1 : -1000000000000 ≤ x) (h2 : x ≤ 1000000000000) : IntKind.i64.wrap x = x := by simp [IntKind.wrap, IntKind.bits, IntKind.signed]; omega
theorem tdiv_small (x y : Int) (h1 : 0 ≤ x) : x.tdiv y = x / y := Int.tdiv_eq_ediv_of_nonneg h1
end Go.Proofs.YtajjhdfhccdgaaaDoor
