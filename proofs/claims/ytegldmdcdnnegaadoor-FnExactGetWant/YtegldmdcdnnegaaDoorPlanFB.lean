/- The plan for a length: what it is. -/
import Derived.Test.YtegldmdcdnnegaaDoorPlanI
import Derived.Test.YtegldmdcdnnegaaDoorQB
namespace Go.Proofs.YtegldmdcdnnegaaDoor
open Go.ChangeShapes Go.WideShapes Go.ChangeAt Go.RowKit Go.Sort

/-- The size, how many blocks, the first quarter of them. -/
def forS (long : Int) : Int := max 8 (cntI long 24)
def forN (long : Int) : Int := cntI long (forS long)
def forK (long : Int) : Int := cntI (forN long) 4
def forW (long : Int) : List Int := if forK long < forN long then [forK long, forN long] else [forN long]
def forG (long : Int) : List Int := if forK long < forN long then [2, 3] else [1]

/-- A plan of the call's own. -/
def PlanO (w : World) (base : Nat) (long size : Int) (ws gs : List Int) (v : Value) : Prop :=
  ∃ v1 v2, v = .agg #[.int .i64 long, .int .i64 size, v1, v2] ∧ w.ownsRow base 3 1 v1 ws.length (ws.map (Value.int .i64)) ∧ w.ownsRow base 3 1 v2 gs.length (gs.map (Value.int .i64)) ∧ Apart v1 v2

theorem cntI_24 (long : Int) (h1 : 1 ≤ long) (h2 : long ≤ 300) : 1 ≤ cntI long 24 ∧ cntI long 24 ≤ 13 := by unfold cntI; omega
theorem forS_bd (long : Int) (h1 : 1 ≤ long) (h2 : long ≤ 300) : 8 ≤ forS long ∧ forS long ≤ 13 := by
  have := cntI_24 long h1 h2
  unfold forS; omega
/-- As long as there are too many blocks a block is too small. -/
theorem for_step (long s : Int) (_h1 : 1 ≤ long) (_h2 : long ≤ 300) (h3 : 1 ≤ s) : 24 < cntI long s ↔ s < cntI long 24 := by
  unfold cntI
  rw [Int.lt_iff_add_one_le, Int.le_ediv_iff_mul_le (by omega)]
  omega
theorem own_laid {w : World} {base g : Nat} (xs : List Int) (h : w.heap[g]? = some (.cells (xs.map (Value.int .i64)).toArray 3 (0, 0))) (hb : base ≤ g) (hx : xs.length ≤ 1000) :
    w.ownsRow base 3 1 (.slice (some ⟨g, 0, none⟩) xs.length xs.length) xs.length (xs.map (Value.int .i64)) :=
  ⟨by simp, Or.inr ⟨g, xs.length, _, rfl, hb, h, Nat.le_refl _, by unfold maxLen; omega, by simp, by simp [List.take_of_length_le]⟩⟩
theorem apart_of {g1 g2 n1 c1 n2 c2 : Nat} (h : g1 ≠ g2) : Apart (.slice (some ⟨g1, 0, none⟩) n1 c1) (.slice (some ⟨g2, 0, none⟩) n2 c2) :=
  ⟨fun k a b => by simp [Value.ownBlock] at a b; omega, fun k a b => by simp [Value.ownBlock] at a b; omega⟩
theorem planO_nil (w : World) (base : Nat) : PlanO w base 0 0 [] [] (.agg #[.int .i64 0, .int .i64 0, .slice none 0 0, .slice none 0 0]) :=
  ⟨_, _, rfl, World.ownsRow_nil _ _ _ _, World.ownsRow_nil _ _ _ _, fun k a => by simp [Value.ownBlock] at a, fun k a => by simp [Value.ownBlock] at a⟩
theorem World.size_alloc' (w : World) (o : Obj) : (w.alloc o).heap.size = w.heap.size + 1 := by simp
theorem below_set' {w w' : World} (h : Below w.heap.size w w') {p : Addr} (hp : w.heap.size ≤ p.block) (u : Value) : Below w.heap.size w (w'.setCell p u) := h.setCell hp u
theorem below2' (w : World) (a b : Obj) : Below w.heap.size w ((w.alloc a).alloc b) :=
  ((Below.refl _ _).alloc (Nat.le_refl _) _).alloc (by simp) _
theorem planO_slices {w : World} {base : Nat} {long size : Int} {ws gs : List Int} {v : Value} (h : PlanO w base long size ws gs v) : ∃ a1 c1 a2 c2, v = .agg #[.int .i64 long, .int .i64 size, .slice a1 ws.length c1, .slice a2 gs.length c2] ∧
    w.ownsRow base 3 1 (.slice a1 ws.length c1) ws.length (ws.map (Value.int .i64)) ∧ w.ownsRow base 3 1 (.slice a2 gs.length c2) gs.length (gs.map (Value.int .i64)) ∧ Apart (.slice a1 ws.length c1) (.slice a2 gs.length c2) := by
  obtain ⟨v1, v2, rfl, o1, o2, ap⟩ := h
  obtain ⟨a1, c1, rfl⟩ := owns_slice o1
  obtain ⟨a2, c2, rfl⟩ := owns_slice o2
  exact ⟨a1, c1, a2, c2, rfl, o1, o2, ap⟩
end Go.Proofs.YtegldmdcdnnegaaDoor
