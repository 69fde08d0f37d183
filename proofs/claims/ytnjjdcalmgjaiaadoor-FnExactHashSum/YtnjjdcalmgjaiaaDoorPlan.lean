/- Plans: what is ok, by the model and by the program. -/
import Derived.Test.YtnjjdcalmgjaiaaDoorIntsR
import Derived.Test.YtnjjdcalmgjaiaaDoorIn
import Derived.Deep.RegionHeld3
import Derived.Deep.DrawnRows
namespace Go.Proofs.YtnjjdcalmgjaiaaDoor
open Go.ChangeShapes Go.WideShapes Go.ChangeAt Go.RowKit

theorem below_alloc' (w : World) (o : Obj) : Below w.heap.size w (w.alloc o) := (Below.refl _ _).alloc (Nat.le_refl _) o
/-- How many blocks. -/
def cntI (long size : Int) : Int := (long + size - 1) / size
/-- The window ahead of a place. -/
def prev0 (ws : List Int) (k : Nat) : Int := if k = 0 then 0 else ws.getD (k - 1) 0
/-- Windows that ascend up to all blocks. -/
def winP (n : Int) (ws : List Int) : Prop := 1 ≤ ws.length ∧ ws.length ≤ 3 ∧ (∀ k, k < ws.length → prev0 ws k < ws.getD k 0) ∧ prev0 ws ws.length = n
instance (n : Int) (ws : List Int) : Decidable (winP n ws) := by unfold winP; infer_instance
/-- Weights that may be. -/
def wgtP (m : Nat) (gs : List Int) : Prop := (∀ k, k < gs.length → 1 ≤ gs.getD k 0 ∧ gs.getD k 0 ≤ 99) ∧ gs.length = m
instance (m : Nat) (gs : List Int) : Decidable (wgtP m gs) := by unfold wgtP; infer_instance
/-- Sizes that may be. -/
def sizP (long size : Int) : Prop := 1 ≤ long ∧ long ≤ 300 ∧ 1 ≤ size ∧ size ≤ 16 ∧ cntI long size ≤ 24
instance (long size : Int) : Decidable (sizP long size) := by unfold sizP; infer_instance
/-- A plan that is ok. -/
def planP (long size : Int) (ws gs : List Int) : Prop := sizP long size ∧ winP (cntI long size) ws ∧ wgtP ws.length gs
instance (long size : Int) (ws gs : List Int) : Decidable (planP long size ws gs) := by unfold planP; infer_instance

end Go.Proofs.YtnjjdcalmgjaiaaDoor
