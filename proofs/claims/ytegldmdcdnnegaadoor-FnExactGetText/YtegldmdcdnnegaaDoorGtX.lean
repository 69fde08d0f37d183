/- What is known of a thing is the same, wherever it lies. -/
import Derived.Test.YtegldmdcdnnegaaDoorGtW
import Derived.Test.YtegldmdcdnnegaaDoorSlX
namespace Go.Proofs.YtegldmdcdnnegaaDoor
open Go.ChangeShapes Go.WideShapes Go.ChangeAt Go.RowKit Go.Sort Go.Shelf

theorem SamV.getP {L S : Int} {ws gs : List Int} {C Z : Int} {es fs : List EqV} (h : SamV fs es) : getP L S ws gs C Z fs ↔ getP L S ws gs C Z es := by
  unfold Go.Proofs.YtegldmdcdnnegaaDoor.getP
  rw [h.solver]
theorem SamV.getOk {L S : Int} {ws gs : List Int} {C Z : Int} {es fs : List EqV} (h : SamV fs es) : decide (Go.Proofs.YtegldmdcdnnegaaDoor.getP L S ws gs C Z fs) = decide (Go.Proofs.YtegldmdcdnnegaaDoor.getP L S ws gs C Z es) := by
  rw [decide_eq_decide]; exact h.getP
theorem SamV.getDone {L S : Int} {ws gs : List Int} {C Z : Int} {es fs : List EqV} (h : SamV fs es) : decide (Go.Proofs.YtegldmdcdnnegaaDoor.getP L S ws gs C Z fs ∧ (fs.length : Int) = C) = decide (Go.Proofs.YtegldmdcdnnegaaDoor.getP L S ws gs C Z es ∧ (es.length : Int) = C) := by
  rw [decide_eq_decide, h.getP, h.len]
theorem SamV.wins {L S : Int} {ws gs : List Int} {C Z : Int} {es fs : List EqV} (h : SamV fs es) : winsOf L S ws gs C Z fs = winsOf L S ws gs C Z es := by
  unfold winsOf
  rw [h.1]
  by_cases hp : Go.Proofs.YtegldmdcdnnegaaDoor.getP L S ws gs C Z es
  · rw [if_pos hp, if_pos (h.getP.2 hp)]
  · rw [if_neg hp, if_neg (fun h1 => hp (h.getP.1 h1))]
end Go.Proofs.YtegldmdcdnnegaaDoor
