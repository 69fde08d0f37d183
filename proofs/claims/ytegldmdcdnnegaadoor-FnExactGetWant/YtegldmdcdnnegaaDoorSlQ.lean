/- What is said of a row is the same, wherever equations lie. -/
import Derived.Test.YtegldmdcdnnegaaDoorSlJ
import Derived.Test.YtegldmdcdnnegaaDoorSlX
namespace Go.Proofs.YtegldmdcdnnegaaDoor
open Go.ChangeShapes Go.WideShapes Go.ChangeAt Go.RowKit Go.Sort Go.Shelf

theorem SamV.steps : ∀ {es fs : List EqV}, SamV fs es → ∀ s, fs.foldl stepE s = es.foldl stepE s
  | [], [], _, _ => rfl
  | [], f :: fs, h, _ => by have := h.len; simp at this
  | e :: es, [], h, _ => by have := h.len; simp at this
  | e :: es, f :: fs, h, s => by
    obtain ⟨h1, h2⟩ := h
    simp only [List.map_cons, List.cons.injEq] at h1 h2
    have e1 : stepE s f = stepE s e := by unfold stepE; rw [h1.1, h2.1]
    rw [List.foldl_cons, List.foldl_cons, e1]
    exact SamV.steps ⟨h1.2, h2.2⟩ _
theorem SamV.says {c z : Int} {es fs : List EqV} (h : SamV fs es) (row : List Int) : saysT c z fs row = saysT c z es row ∧ decide (saysP c z fs row) = decide (saysP c z es row) := by
  have e : saysS fs z row = saysS es z row := h.steps _
  have e2 : saysP c z fs row ↔ saysP c z es row := by
    unfold saysP
    rw [e]
    exact ⟨fun k => ⟨h.solver.1 k.1, k.2⟩, fun k => ⟨h.solver.2 k.1, k.2⟩⟩
  constructor
  · unfold saysT
    rw [e]
    by_cases hp : saysP c z es row
    · rw [if_pos hp, if_pos (e2.2 hp)]
    · rw [if_neg hp, if_neg (fun k => hp (e2.1 k))]
  · exact decide_eq_decide.2 e2
theorem owns_cap {w : World} {base : Nat} {e : TypeId} {a : Option Addr} {n m cap : Nat} {xs : List Value} (h : w.ownsRow base e 1 (.slice a m cap) n xs) : a = none → cap = 0 := by
  intro ha
  subst ha
  rcases h.2 with ⟨hv, -⟩ | ⟨g, cap', cur, hv, -⟩
  · cases hv; rfl
  · cases hv
end Go.Proofs.YtegldmdcdnnegaaDoor
