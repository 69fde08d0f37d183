/- In a round: reads, what lays memory, and stores, walked once. -/
import Derived.Test.YtcoofoiaaljpoaaInr
import Derived.Test.YtcoofoiaaljpoaaFrl
namespace Go.Proofs.Ytcoofoiaaljpoaa
open Go.ChangeShapes Go.WideShapes Go.ChangeAt Go.RowKit Go.Sort

theorem inR_fore {P : Program} {id : Nat} {Q : Exit → Act → World → Prop} {a : Act} {w : World} {l : List Oper} {r n : Nat} (m : Nat) (hm : P.follows .mixedOrders = true) (hB : foreB l m = true) (hn : l.all noDefer = true) (hQ0 : ¬ LetsOut Q) (hQ : ∀ c a d v w, Q (.panic c) (a.put d v) w → Q (.panic c) a w)
    (h : wpQuiet P l.toArray (fun w' => ∃ p : Regrown, w' = grow (redrawn w p.d) p.os) (fun a' => ∀ w', (∃ p : Regrown, w' = grow (redrawn w p.d) p.os) → wpList P l.toArray Q (l.drop m) a' w') (l.take m) a) : (Code.region id l.toArray true).wpIn (Fence.wide.inRound r) n P Q a w :=
  wpIn_region_any hm (inR_any hQ0 (nd_all hn) _ _ _ _ (any_fore (C := fun w' => ∃ p : Regrown, w' = grow (redrawn w p.d) p.os) m hB hQ ⟨⟨w.drawn + 1, #[]⟩, by rw [grow_empty]; rfl⟩ h))
theorem inR_line {P : Program} {id : Nat} {Q : Exit → Act → World → Prop} {a : Act} {w : World} {l : List Oper} {r n' : Nat} (m n : Nat) (hm : P.follows .mixedOrders = true) (hB : lineB l m n = true) (hn : l.all noDefer = true) (hQ0 : ¬ LetsOut Q) (hQ : ∀ c a d v w, Q (.panic c) (a.put d v) w → Q (.panic c) a w)
    (h : wpQuiet P l.toArray (fun w' => ∃ p : Regrown, w' = grow (redrawn w p.d) p.os) (fun a' => ∀ w', (∃ p : Regrown, w' = grow (redrawn w p.d) p.os) → wpRest P l.toArray Q (fun w' => ∃ p : Regrown, w' = grow (redrawn w p.d) p.os) n (l.drop m) a' w') (l.take m) a) : (Code.region id l.toArray true).wpIn (Fence.wide.inRound r) n' P Q a w :=
  wpIn_region_any hm (inR_any hQ0 (nd_all hn) _ _ _ _ (any_line (C := fun w' => ∃ p : Regrown, w' = grow (redrawn w p.d) p.os) m n hB hQ ⟨⟨w.drawn + 1, #[]⟩, by rw [grow_empty]; rfl⟩ h))
/-- The rest of the region, in a round, is walked plainly. -/
theorem class_of {w w' : World} (h : Below w.heap.size w w') : ∃ p : Regrown, w' = grow (redrawn w p.d) p.os := regrown_of_below h
theorem of_class {w w' : World} (h : ∃ p : Regrown, w' = grow (redrawn w p.d) p.os) : Below w.heap.size w w' := by
  obtain ⟨p, rfl⟩ := h
  exact below_regrown _ _ _
end Go.Proofs.Ytcoofoiaaljpoaa
