/- RowDraw, the program's and the model's. -/
import Derived.Test.YtajjhdfhccdgaaaDoorDrawJ
namespace Go.Proofs.YtajjhdfhccdgaaaDoor
open Go.ChangeShapes Go.WideShapes Go.ChangeAt Go.RowKit

theorem implRowDraw_out (c s : Int) (w : World) (h : ¬ ((1 ≤ c ∧ c ≤ 24) ∧ 0 ≤ s ∧ s ≤ 2147483647)) :
    Calls Tryd.prog 13 #[.int .i64 c, .int .i64 s] w fun e w' => ∃ v, e = .returned v ∧ w'.ownsRow w.heap.size 3 1 v ([] : List Int).length (([] : List Int).map (Value.int .i64)) ∧ Below w.heap.size w w' := by
  by_cases hs : 0 ≤ s ∧ s ≤ 2147483647
  · by_cases hc : c < 1
    · clear h
      go_enter Tryd.func13, Tryd.ntmps13
      go_wp2_with (go_at_call 25; refine (seedOf_in s _ hs.1 hs.2).mono ?_; rintro e w' ⟨rfl, hq⟩; replace hq := hq.symm; subst hq)
      go_ret
      exact ⟨_, rfl, World.ownsRow_nil _ _ _ _, Below.refl _ _⟩
    · have hc2 : (24 : Int) < c := by omega
      clear h
      go_enter Tryd.func13, Tryd.ntmps13
      go_wp2_with (go_at_call 25; refine (seedOf_in s _ hs.1 hs.2).mono ?_; rintro e w' ⟨rfl, hq⟩; replace hq := hq.symm; subst hq)
      go_ret
      exact ⟨_, rfl, World.ownsRow_nil _ _ _ _, Below.refl _ _⟩
  · have hs2 : s < 0 ∨ 2147483647 < s := by omega
    clear h hs
    go_enter Tryd.func13, Tryd.ntmps13
    go_wp2_with (go_at_call 25; refine (seedOf_out s _ hs2).mono ?_; rintro e w' ⟨rfl, hq⟩; replace hq := hq.symm; subst hq)
    go_ret
    exact ⟨_, rfl, World.ownsRow_nil _ _ _ _, Below.refl _ _⟩

theorem specRowDraw_in (count : Nat) (seed : Int) (w : World) (h1 : 1 ≤ count) (h2 : count ≤ 24) (s1 : 0 ≤ seed) (s2 : seed ≤ 2147483647) :
    Calls Tryd.prog 14 #[.int .i64 count, .int .i64 seed] w fun e w' => ∃ v, e = .returned v ∧ w'.ownsRow w.heap.size 3 1 v (drawI count seed).length ((drawI count seed).map (Value.int .i64)) ∧ Below w.heap.size w w' := by
  go_enter Tryd.func14, Tryd.ntmps14
  go_wp2_with (first
    | (go_at_call 23; refine (l1In_yes _ _ _ _ (by omega)).mono ?_; rintro e w' ⟨rfl, hq⟩; replace hq := hq.symm; subst hq)
    | (go_at_call 34; refine (l4Row_any count seed _ h1 h2 s1 s2).mono ?_; rintro e w' ⟨v, rfl, ho, hb⟩))
  go_ret
  exact ⟨_, rfl, ho, hb⟩
theorem specRowDraw_out (c s : Int) (w : World) (h : ¬ ((1 ≤ c ∧ c ≤ 24) ∧ 0 ≤ s ∧ s ≤ 2147483647)) :
    Calls Tryd.prog 14 #[.int .i64 c, .int .i64 s] w fun e w' => ∃ v, e = .returned v ∧ w'.ownsRow w.heap.size 3 1 v ([] : List Int).length (([] : List Int).map (Value.int .i64)) ∧ Below w.heap.size w w' := by
  by_cases hc : 1 ≤ c ∧ c ≤ 24
  · have hs : s < 0 ∨ 2147483647 < s := by omega
    clear h
    go_enter Tryd.func14, Tryd.ntmps14
    go_wp2_with (first
      | (go_at_call 23; refine (l1In_yes _ _ _ _ (by omega)).mono ?_; rintro e w' ⟨rfl, hq⟩; replace hq := hq.symm; subst hq)
      | (go_at_call 23; refine (l1In_no _ _ _ _ (by omega)).mono ?_; rintro e w' ⟨rfl, hq⟩; replace hq := hq.symm; subst hq))
    go_ret
    exact ⟨_, rfl, World.ownsRow_lit _ #[] 0 (Nat.le_refl _) (Nat.zero_le _) rfl, (Below.refl _ _).alloc (Nat.le_refl _) _⟩
  · have hc2 : c < 1 ∨ 24 < c := by omega
    clear h hc
    go_enter Tryd.func14, Tryd.ntmps14
    go_wp2_with (go_at_call 23; refine (l1In_no _ _ _ _ (by omega)).mono ?_; rintro e w' ⟨rfl, hq⟩; replace hq := hq.symm; subst hq)
    go_ret
    exact ⟨_, rfl, World.ownsRow_lit _ #[] 0 (Nat.le_refl _) (Nat.zero_le _) rfl, (Below.refl _ _).alloc (Nat.le_refl _) _⟩
end Go.Proofs.YtajjhdfhccdgaaaDoor
