/- Numbers in a text, a blank behind each. -/
import Derived.Test.YtpalcgelcnlhbaaDoorDec
namespace Go.Proofs.YtpalcgelcnlhbaaDoor
open Go.ChangeShapes Go.WideShapes Go.ChangeAt Go.RowKit

/-- Numbers, a blank behind each. -/
def numL (ns : List Nat) : List UInt8 := ns.flatMap fun n => (decS n).data.toList ++ [32]
theorem numL_len (ns : List Nat) (h : ∀ n ∈ ns, n ≤ 99999) : (numL ns).length ≤ 22 * ns.length := by
  induction ns with
  | nil => simp [numL]
  | cons n r ih =>
    have h1 := decS_size n (by have := h n (by simp); omega)
    have h2 := ih (fun m hm => h m (by simp [hm]))
    have e : (decS n).data.toList.length = (decS n).size := by rw [Array.length_toList]; rfl
    simp only [numL, List.flatMap_cons, List.length_append, List.length_cons, List.length_nil, e] at h2 ⊢
    omega
theorem numL_snoc (ns : List Nat) (n : Nat) : numL (ns ++ [n]) = numL ns ++ (decS n).data.toList ++ [32] := by simp [numL]
end Go.Proofs.YtpalcgelcnlhbaaDoor
