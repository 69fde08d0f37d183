/- Blocks put together: the program's and the model's. An append of a whole row, as one step of a region that draws its order. Appends of whole rows, as steps of a region that draws its order. The plan for a length: what it is. -/
import Derived.Test.YtbakicgdloakgaaGreatDoorG0
import Derived.Laws.BytesArg
import Derived.Deep.RegionLaw
import Derived.BigRegion
import Derived.Test.YtbakicgdloakgaaGreatDoorG4
import Derived.Test.YtbakicgdloakgaaGreatDoorG7
import Derived.Test.YtbakicgdloakgaaGreatDoorG2
namespace Go.Proofs.YtbakicgdloakgaaGreatDoor
open Go.ChangeShapes Go.WideShapes Go.ChangeAt Go.RowKit

/-- Two lists of bytes, bit by bit unlike. -/
def xorL (xs ys : List Int) : List Int := List.zipWith (fun x y => bits .xor .u8 x y) xs ys
end Go.Proofs.YtbakicgdloakgaaGreatDoor
namespace Go.Proofs.YtbakicgdloakgaaGreatDoor
open Go.ChangeShapes Go.WideShapes Go.ChangeAt Go.RowKit

end Go.Proofs.YtbakicgdloakgaaGreatDoor
namespace Go.Proofs.YtbakicgdloakgaaGreatDoor
open Go.ChangeShapes Go.WideShapes Go.ChangeAt Go.RowKit

theorem bw1 (w : World) (A : Obj) : Below w.heap.size w ((w.alloc A).drew) := ((Below.refl _ _).alloc (Nat.le_refl _) _).drew
theorem bw2 (w : World) (A B : Obj) : Below w.heap.size w (((w.alloc A).alloc B).drew) := (((Below.refl _ _).alloc (Nat.le_refl _) _).alloc (by rw [World.size_alloc]; omega) _).drew
end Go.Proofs.YtbakicgdloakgaaGreatDoor
namespace Go.Proofs.YtbakicgdloakgaaGreatDoor
open Go.ChangeShapes Go.WideShapes Go.ChangeAt Go.RowKit Go.Sort

/-- A plan of the call's own. -/
def PlanO (w : World) (base : Nat) (long size : Int) (ws gs : List Int) (v : Value) : Prop :=
  ∃ v1 v2, v = .agg #[.int .i64 long, .int .i64 size, v1, v2] ∧ w.ownsRow base 3 1 v1 ws.length (ws.map (Value.int .i64)) ∧ w.ownsRow base 3 1 v2 gs.length (gs.map (Value.int .i64)) ∧ Apart v1 v2

theorem World.size_alloc' (w : World) (o : Obj) : (w.alloc o).heap.size = w.heap.size + 1 := by simp
theorem below_set' {w w' : World} (h : Below w.heap.size w w') {p : Addr} (hp : w.heap.size ≤ p.block) (u : Value) : Below w.heap.size w (w'.setCell p u) := h.setCell hp u
theorem below2' (w : World) (a b : Obj) : Below w.heap.size w ((w.alloc a).alloc b) :=
  ((Below.refl _ _).alloc (Nat.le_refl _) _).alloc (by simp) _
theorem planO_slices {w : World} {base : Nat} {long size : Int} {ws gs : List Int} {v : Value} (h : PlanO w base long size ws gs v) : ∃ a1 c1 a2 c2, v = .agg #[.int .i64 long, .int .i64 size, .slice a1 ws.length c1, .slice a2 gs.length c2] ∧
    w.ownsRow base 3 1 (.slice a1 ws.length c1) ws.length (ws.map (Value.int .i64)) ∧ w.ownsRow base 3 1 (.slice a2 gs.length c2) gs.length (gs.map (Value.int .i64)) ∧ Apart (.slice a1 ws.length c1) (.slice a2 gs.length c2) := by
  obtain ⟨v1, v2, rfl, o1, o2, ap⟩ := h
  obtain ⟨a1, c1, rfl⟩ := owns_slice o1
  obtain ⟨a2, c2, rfl⟩ := owns_slice o2
  exact ⟨a1, c1, a2, c2, rfl, o1, o2, ap⟩
end Go.Proofs.YtbakicgdloakgaaGreatDoor
