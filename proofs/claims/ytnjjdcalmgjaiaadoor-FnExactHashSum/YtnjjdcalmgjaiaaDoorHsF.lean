/- The constants, by the model. -/
import Derived.Test.YtnjjdcalmgjaiaaDoorHsD
namespace Go.Proofs.YtnjjdcalmgjaiaaDoor
open Go.ChangeShapes Go.WideShapes Go.ChangeAt Go.RowKit

/-- The block of a row of words. -/
def wordC (xs : List Int) : Array Value := (u32s xs).toArray
theorem wordC_at (xs : List Int) (i : Nat) (h : i < xs.length) : (wordC xs)[i]? = some (.int .u32 (xs.getD i 0)) := by
  unfold wordC
  rw [List.getElem?_toArray]
  exact u32_at xs i h
set_option maxHeartbeats 4000000 in
set_option maxRecDepth 100000 in
theorem l1Consts_any (w : World) :
    Calls Tryd.prog 58 #[] w fun e w' => ∃ g, e = .returned (.slice (some ⟨g, 0, none⟩) 64 64) ∧ w.heap.size ≤ g ∧ w'.heap[g]? = some (.cells (wordC hashK) 38 (0, 0)) ∧ Below w.heap.size w w' := by
  obtain ⟨W0, hW0⟩ : ∃ W0, W0 = w.alloc (.cells (wordC hashK) 38) := ⟨_, rfl⟩
  go_enter Tryd.func58, Tryd.ntmps58
  repeat ((fail_if_success (with_reducible show Code.wp _ (Code.region 1 _ _) _ _ _)); (first | go_values | go_skip | go_guarded | go_step | go_upon | go_back | go_simp))
  go_wp2_with fail
  refine (fun (key : ∀ V, V = W0 → bodyPost _ _ _ _ _ V) => key _ (by rw [hW0]; kernel_rfl)) ?_
  intro V hV
  subst hV
  go_ret
  exact ⟨_, rfl, Nat.le_refl _, by rw [hW0]; exact u_laid w _ _ rfl, by rw [hW0]; exact u_b1 _ _⟩
end Go.Proofs.YtnjjdcalmgjaiaaDoor
