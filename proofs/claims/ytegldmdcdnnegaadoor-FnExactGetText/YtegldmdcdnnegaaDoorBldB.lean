/- A builder stays one where all that was there stays. -/
import Derived.Test.YtegldmdcdnnegaaDoorBld
import Derived.Test.YtegldmdcdnnegaaDoorCmn
namespace Go.Proofs.YtegldmdcdnnegaaDoor
open Go.ChangeShapes Go.WideShapes Go.ChangeAt Go.RowKit

theorem blB_below {T e : TypeId} {B b : Nat} {bs : List Value} {w w' : World} (h : Lib.IsBuilder T e B b bs w) (hb : Below w.heap.size w w') : Lib.IsBuilder T e B b bs w' := by
  rcases h with ⟨hB, v, hbk, hown, hne⟩ | ⟨hB, v, hbk, hown, hne⟩
  · exact .inl ⟨hB, v, kept hbk hb, owns_below hown hb, hne⟩
  · exact .inr ⟨hB, v, kept hbk hb, owns_below hown hb, hne⟩
theorem blF_below {T e : TypeId} {B b : Nat} {bs : List Value} {w w' : World} (h : Lib.IsBuilderF T e B b bs w) (hb : Below w.heap.size w w') : Lib.IsBuilderF T e B b bs w' := by
  have ow : ∀ {v : Value}, World.ownsRowF w B e 1 v bs.length bs → World.ownsRowF w' B e 1 v bs.length bs := fun {v} h => by
    obtain ⟨h1, h2⟩ := h
    refine ⟨h1, ?_⟩
    rcases h2 with h2 | ⟨g, cap, cur, hi, hv, hg, hh, r⟩
    · exact Or.inl h2
    · exact Or.inr ⟨g, cap, cur, hi, hv, hg, (hb.block g (lt_of_block hh)).trans hh, r⟩
  rcases h with ⟨hB, v, hbk, hown, hne⟩ | ⟨hB, v, hbk, hown, hne⟩
  · exact .inl ⟨hB, v, kept hbk hb, ow hown, hne⟩
  · exact .inr ⟨hB, v, kept hbk hb, ow hown, hne⟩
theorem bytes_app (l : List UInt8) (s : ByteArray) : Lib.byteCells l ++ Lib.strCells s = Lib.byteCells (l ++ s.data.toList) := by
  rw [Lib.byteCells_append]
  rfl
end Go.Proofs.YtegldmdcdnnegaaDoor
