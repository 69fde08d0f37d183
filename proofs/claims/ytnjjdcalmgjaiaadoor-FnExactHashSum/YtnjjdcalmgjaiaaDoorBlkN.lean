/- Texts and their bytes. -/
import Derived.Test.YtnjjdcalmgjaiaaDoorBlk
import Derived.Laws.BitsAllLaws
namespace Go.Proofs.YtnjjdcalmgjaiaaDoor
open Go.ChangeShapes Go.WideShapes Go.ChangeAt Go.RowKit

def BytesL (xs : List Int) : Prop := ∀ x ∈ xs, 0 ≤ x ∧ x ≤ 255
theorem nums_str {xs : List Int} (h : BytesL xs) : nums (strOfNums xs) = xs := by
  unfold nums
  rw [strOfNums_data, List.map_map]
  conv => rhs; rw [← List.map_id xs]
  apply List.map_congr_left
  intro x hx
  have := h x hx
  simp
  omega
theorem nums_bytes (s : ByteArray) : BytesL (nums s) := by
  intro x hx
  unfold nums at hx
  obtain ⟨c, -, rfl⟩ := List.mem_map.1 hx
  have := c.toNat_lt
  omega
end Go.Proofs.YtnjjdcalmgjaiaaDoor
