/- Equations that are ok, pair by pair. -/
import Derived.Test.YtegldmdcdnnegaaDoorSlC
namespace Go.Proofs.YtegldmdcdnnegaaDoor
open Go.ChangeShapes Go.WideShapes Go.ChangeAt Go.RowKit Go.Sort Go.Shelf
attribute [local go_sem] Oper.semAt_some

/-- Equations that are ok, pair by pair. -/
theorem okE_iff {c z : Int} : ∀ {es : List EqV}, okE c z es ↔ ∀ i (hi : i < es.length), (ascB (-1) c es[i].r = true ∧ (es[i].d.size : Int) = z ∧ es[i].r ≠ []) ∧ ∀ j (hj : j < es.length), i < j → fit1 es[i].r es[j].r
  | [] => ⟨fun _ i hi => by simp at hi, fun _ => trivial⟩
  | e :: es => by
    constructor
    · rintro ⟨⟨h1, h2, h3⟩, h4⟩ i hi
      have ih := okE_iff.1 h4
      cases i with
      | zero => exact ⟨⟨h1, h2, h3.1⟩, fun j hj hlt => by
          cases j with
          | zero => omega
          | succ j => exact h3.2 _ (List.mem_map_of_mem (List.getElem_mem (by simpa using hj)))⟩
      | succ i =>
        have := ih i (by simpa using hi)
        exact ⟨this.1, fun j hj hlt => by
          cases j with
          | zero => omega
          | succ j => exact this.2 j (by simpa using hj) (by omega)⟩
    · intro h
      refine ⟨⟨(h 0 (by simp)).1.1, (h 0 (by simp)).1.2.1, (h 0 (by simp)).1.2.2, fun r hr => ?_⟩, okE_iff.2 fun i hi => ⟨(h (i + 1) (by simpa using hi)).1, fun j hj hlt => (h (i + 1) (by simpa using hi)).2 (j + 1) (by simpa using hj) (by omega)⟩⟩
      obtain ⟨f, hf, rfl⟩ := List.mem_map.1 hr
      obtain ⟨j, hj, rfl⟩ := List.getElem_of_mem hf
      exact (h 0 (by simp)).2 (j + 1) (by simpa using hj) (by omega)
/-- What the model looks at first. -/
def p1At (c z : Int) (es : List EqV) (i : Nat) : Prop := ∃ hi : i < es.length, (ascB (-1) c es[i].r = true ∧ es[i].r ≠ [] ∧ (es[i].d.size : Int) = z) ∧ (0 < i → ∃ hj : i - 1 < es.length, hd es[i - 1].r < hd es[i].r)
/-- .. and then. -/
def p2At (es : List EqV) (i k : Nat) : Prop := ∀ (hi : i < es.length) (hk : k < es.length), k ≠ i → hd es[i].r ∉ es[k].r
theorem p1_asc {c z : Int} {es : List EqV} (h : ∀ i, i < es.length → p1At c z es i) : ∀ (d i : Nat) (hi : i < es.length) (hj : i + d + 1 < es.length), hd es[i].r < hd es[i + d + 1].r := by
  intro d
  induction d with
  | zero =>
    intro i hi hj
    obtain ⟨_, _, h2⟩ := h (i + 1) hj
    obtain ⟨_, h3⟩ := h2 (by omega)
    exact h3
  | succ d ih =>
    intro i hi hj
    have h1 := ih i hi (by omega)
    obtain ⟨_, _, h2⟩ := h (i + (d + 1) + 1) hj
    obtain ⟨_, h3⟩ := h2 (by omega)
    have e : hd (es[i + (d + 1) + 1 - 1]'(by omega)).r = hd (es[i + d + 1]'(by omega)).r := rfl
    omega
theorem okE_p {c z : Int} {es : List EqV} : okE c z es ↔ (∀ i, i < es.length → p1At c z es i) ∧ ∀ i k, p2At es i k := by
  constructor
  · intro h
    have h' := okE_iff.1 h
    refine ⟨fun i hi => ⟨hi, ⟨(h' i hi).1.1, (h' i hi).1.2.2, (h' i hi).1.2.1⟩, fun h0 => ⟨by omega, ((h' (i - 1) (by omega)).2 i hi (by omega)).1⟩⟩, fun i k hi hk hne => ?_⟩
    rcases Nat.lt_or_ge k i with hlt | hge
    · exact ((h' k hk).2 i hi hlt).2
    · have := ((h' i hi).2 k hk (by omega)).1
      intro hm
      have := hd_le (h' k hk).1.1 hm
      omega
  · rintro ⟨h1, h2⟩
    refine okE_iff.2 fun i hi => ?_
    obtain ⟨_, ⟨a1, a2, a3⟩, _⟩ := h1 i hi
    refine ⟨⟨a1, a3, a2⟩, fun j hj hlt => ⟨?_, h2 j i hj hi (by omega)⟩⟩
    obtain ⟨d, rfl⟩ : ∃ d, j = i + d + 1 := ⟨j - i - 1, by omega⟩
    exact p1_asc h1 d i hi hj
end Go.Proofs.YtegldmdcdnnegaaDoor
