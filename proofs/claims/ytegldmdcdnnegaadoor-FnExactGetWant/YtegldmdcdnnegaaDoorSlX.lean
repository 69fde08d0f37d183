/- What is known is the same, wherever equations lie. -/
import Derived.Test.YtegldmdcdnnegaaDoorSlUa
import Derived.Test.YtegldmdcdnnegaaDoorSlV
namespace Go.Proofs.YtegldmdcdnnegaaDoor
open Go.ChangeShapes Go.WideShapes Go.ChangeAt Go.RowKit Go.Sort Go.Shelf

theorem SamV.eqs {c z : Int} {es fs : List EqV} (h : SamV fs es) : SamV (eqsOf c z fs) (eqsOf c z es) := by
  unfold eqsOf
  by_cases hp : solverP c z es
  · rw [if_pos hp, if_pos (h.solver.2 hp)]; exact h
  · rw [if_neg hp, if_neg (fun h1 => hp (h.solver.1 h1))]; exact ⟨rfl, rfl⟩
theorem SamV.rank {c z : Int} {es fs : List EqV} (h : SamV fs es) : (eqsOf c z fs).length = (eqsOf c z es).length := h.eqs.len
theorem SamV.pfx {c z : Int} {es fs : List EqV} (h : SamV fs es) : (eqsOf c z fs).map EqV.r = (eqsOf c z es).map EqV.r := h.eqs.1
theorem SamV.find {at' : Int} : ∀ {es fs : List EqV}, SamV fs es → gotS (getE fs at') = gotS (getE es at') ∧ (getE fs at').isSome = (getE es at').isSome
  | [], [], _ => ⟨rfl, rfl⟩
  | [], f :: fs, h => by have := h.len; simp at this
  | e :: es, [], h => by have := h.len; simp at this
  | e :: es, f :: fs, h => by
    obtain ⟨h1, h2⟩ := h
    simp only [List.map_cons, List.cons.injEq] at h1 h2
    have ih := SamV.find (at' := at') (es := es) (fs := fs) ⟨h1.2, h2.2⟩
    unfold getE at ih ⊢
    by_cases hp : e.r = [at']
    · rw [List.find?_cons_of_pos (a := f) (by rw [h1.1]; simpa using hp), List.find?_cons_of_pos (a := e) (by simpa using hp)]
      exact ⟨h2.1, rfl⟩
    · rw [List.find?_cons_of_neg (a := f) (by rw [h1.1]; simpa using hp), List.find?_cons_of_neg (a := e) (by simpa using hp)]
      exact ih
theorem SamV.got {c z : Int} {es fs : List EqV} (h : SamV fs es) (at' : Int) : gotS (getE (eqsOf c z fs) at') = gotS (getE (eqsOf c z es) at') ∧ (getE (eqsOf c z fs) at').isSome = (getE (eqsOf c z es) at').isSome := h.eqs.find
end Go.Proofs.YtegldmdcdnnegaaDoor
