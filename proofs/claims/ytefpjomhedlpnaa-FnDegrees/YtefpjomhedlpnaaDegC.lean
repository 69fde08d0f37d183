/- DegreeOf and Degrees, the model's own. -/
import Derived.Test.YtefpjomhedlpnaaDegL
namespace Go.Proofs.Ytefpjomhedlpnaa
open Go.ChangeShapes Go.WideShapes Go.ChangeAt Go.RowKit

theorem specDegreeOf_in (count : Nat) (p : Int) (h1 : 1 ≤ count) (h2 : count ≤ 24) (p1 : 0 ≤ p) (p2 : p < 65536) (w : World) :
    Calls Try.prog 20 #[.int .i64 count, .int .i64 p] w fun e w' => e = .returned (.int .i64 (degOf (degI count) p)) ∧ Below w.heap.size w w' := by
  go_enter Try.func20, Try.ntmps20
  go_wp2_with (first
    | (go_at_call 30; refine (l1In_yes _ _ _ _ (by omega)).mono ?_; rintro e w' ⟨rfl, rfl⟩)
    | (go_at_call 36; refine (l4Degree_any count p h1 h2 p1 p2 _).mono ?_; rintro e w' ⟨rfl, hb⟩))
  go_ret
  exact ⟨rfl, hb⟩

theorem specDegreeOf_out (c p : Int) (h : p < 0 ∨ 65536 ≤ p ∨ c < 1 ∨ 24 < c) (w : World) :
    Calls Try.prog 20 #[.int .i64 c, .int .i64 p] w fun e w' => e = .returned (.int .i64 0) ∧ w' = w := by
  by_cases h3 : c < 1 ∨ 24 < c
  · go_enter Try.func20, Try.ntmps20
    go_wp2_with (go_at_call 30; refine (l1In_no _ _ _ _ (by omega)).mono ?_; rintro e w' ⟨rfl, rfl⟩)
    go_ret
    exact ⟨rfl, rfl⟩
  · go_enter Try.func20, Try.ntmps20
    go_wp2_with (first
      | (go_at_call 30; refine (l1In_yes _ _ _ _ (by omega)).mono ?_; rintro e w' ⟨rfl, rfl⟩)
      | (go_at_call 30; refine (l1In_no _ _ _ _ (by omega)).mono ?_; rintro e w' ⟨rfl, rfl⟩))
    go_ret
    exact ⟨rfl, rfl⟩

theorem specDegrees_in (count : Nat) (h1 : 1 ≤ count) (h2 : count ≤ 24) (w : World) :
    Calls Try.prog 19 #[.int .i64 count] w fun e w' => ∃ v, e = .returned v ∧ w'.ownsRow w.heap.size 3 1 v count ((degI count).map (Value.int .i64)) ∧ Below w.heap.size w w' := by
  go_enter Try.func19, Try.ntmps19
  go_wp2_with (first
    | (go_at_call 30; refine (l1In_yes _ _ _ _ (by omega)).mono ?_; rintro e w' ⟨rfl, rfl⟩)
    | (go_at_call 35; refine (l4Degrees_any count h1 h2 _).mono ?_; rintro e w' ⟨v, rfl, hown, hb⟩))
  go_ret
  exact ⟨_, rfl, hown, hb⟩

theorem specDegrees_out (c : Int) (h : c < 1 ∨ 24 < c) (w : World) :
    Calls Try.prog 19 #[.int .i64 c] w fun e w' => ∃ v, e = .returned v ∧ w'.ownsRow w.heap.size 3 1 v 0 [] ∧ Below w.heap.size w w' := by
  go_enter Try.func19, Try.ntmps19
  go_wp2_with (go_at_call 30; refine (l1In_no _ _ _ _ (by omega)).mono ?_; rintro e w' ⟨rfl, rfl⟩)
  go_ret
  exact ⟨_, rfl, World.ownsRow_lit _ #[] 0 (Nat.le_refl _) (Nat.zero_le _) rfl, (Below.refl _ _).alloc (Nat.le_refl _) _⟩
end Go.Proofs.Ytefpjomhedlpnaa
