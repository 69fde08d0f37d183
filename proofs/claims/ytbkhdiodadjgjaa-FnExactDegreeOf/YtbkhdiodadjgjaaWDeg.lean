/- The walks of the laws on degrees. -/
import Derived.Test.YtbkhdiodadjgjaaDegC
import Derived.Test.YtbkhdiodadjgjaaInts
namespace Go.Proofs.Ytbkhdiodadjgjaa
open Go.ChangeShapes Go.WideShapes Go.ChangeAt Go.RowKit

theorem walk_FnExactDegreeOf (a0 : Int) (a1 : Int) (w : World) (_w0 : (Lit.int .i64 a0).wf = true) (_w1 : (Lit.int .i64 a1).wf = true) :
    Calls Try.prog 10 #[.int .i64 a0, .int .i64 a1] w fun e w' => e = .returned (.bool true) ∧ Below w.heap.size w w' := by
  by_cases h : 1 ≤ a0 ∧ a0 ≤ 24 ∧ 0 ≤ a1 ∧ a1 < 65536
  · obtain ⟨h1, h2, h3, h4⟩ := h
    obtain ⟨count, rfl⟩ := Int.eq_ofNat_of_zero_le (show 0 ≤ a0 by omega)
    go_enter Try.func10, Try.ntmps10
    go_wp2_with (first
      | (go_at_call 35; refine (specDegreeOf_in count a1 (by omega) (by omega) h3 h4 _).mono ?_; rintro e w1 ⟨rfl, hb1⟩)
      | (go_at_call 36; refine (implDegreeOf_in count a1 (by omega) (by omega) h3 h4 _).mono ?_; rintro e w2 ⟨rfl, hb2⟩))
    go_ret
    exact ⟨rfl, hb1.trans (hb2.mono hb1.size)⟩
  · go_enter Try.func10, Try.ntmps10
    go_wp2_with (first
      | (go_at_call 35; refine (specDegreeOf_out a0 a1 (by omega) _).mono ?_; rintro e w1 ⟨rfl, rfl⟩)
      | (go_at_call 36; refine (implDegreeOf_out a0 a1 (by omega) _).mono ?_; rintro e w2 ⟨rfl, hb2⟩))
    go_ret
    exact ⟨rfl, hb2⟩

/-- What the law does with two answers, the second asked again: for whatever list it is. -/
theorem degrees_law (c : Int) (D : List Int) (hD : D.length ≤ 1000) (w : World)
    (hs : ∀ w : World, Calls Try.prog 31 #[.int .i64 c] w fun e w' => ∃ v, e = .returned v ∧ w'.ownsRow w.heap.size 3 1 v D.length (D.map (Value.int .i64)) ∧ Below w.heap.size w w')
    (hi : ∀ w : World, Calls Try.prog 32 #[.int .i64 c] w fun e w' => ∃ v, e = .returned v ∧ w'.ownsRow w.heap.size 3 1 v D.length (D.map (Value.int .i64)) ∧ Below w.heap.size w w') :
    Calls Try.prog 9 #[.int .i64 c] w fun e w' => e = .returned (.bool true) ∧ Below w.heap.size w w' := by
  go_enter Try.func9, Try.ntmps9
  go_wp2_with fail
  refine (hs _).mono ?_
  rintro e w1 ⟨v0, rfl, o0, b1⟩
  obtain ⟨a0, c0, rfl, -, -⟩ := owns_ints o0
  go_wp2_with fail
  refine (hi _).mono ?_
  rintro e w2 ⟨v1, rfl, o1, b2⟩
  obtain ⟨a1, c1, rfl, -, i1⟩ := owns_ints o1
  go_wp2_with fail
  refine (eqIntS_any a1 a0 c1 c0 D D w2 i1 (owns_at (owns_below o0 b2)) (by omega)).mono ?_
  rintro e w2' ⟨rfl, n1, rfl⟩
  have b3 : Below w1.heap.size w1 (w2.drewN n1) := below_drewN b2 n1
  go_wp2_with fail
  refine (markIntS_any w1.heap.size _ D.length D 1 (w2.drewN n1) o1 (by omega) (by omega) (by omega)).mono ?_
  rintro e w3 ⟨rfl, o3, g3⟩
  have b4 : Below w1.heap.size w1 w3 := b3.trans (grown_base g3 o1 b3.size)
  go_wp2_with fail
  refine (heldIntS_any a1 c1 D.length 1 w3 (owns_at o3) (by omega) (by omega) (by omega)).mono ?_
  rintro e w3' ⟨rfl, rfl⟩
  go_wp2_with fail
  refine (hi _).mono ?_
  rintro e w4 ⟨v2, rfl, o4, b5⟩
  obtain ⟨a2, c2, rfl, -, i4⟩ := owns_ints o4
  have b6 : Below w1.heap.size w1 w4 := b4.trans (b5.mono b4.size)
  go_wp2_with fail
  refine (eqIntS_any a2 a0 c2 c0 D D w4 i4 (owns_at (owns_below o0 b6)) (by omega)).mono ?_
  rintro e w4' ⟨rfl, n2, rfl⟩
  go_wp2_with fail
  refine (heldIntS_any a1 c1 D.length 1 (w4.drewN n2) ((owns_at (owns_below o3 b5)).drewN n2) (by omega) (by omega) (by omega)).mono ?_
  rintro e w5 ⟨rfl, rfl⟩
  go_wp2_with fail
  go_ret
  exact ⟨rfl, b1.trans (below_drewN (b6.mono b1.size) n2)⟩

theorem walk_FnExactDegrees (a0 : Int) (w : World) (_w0 : (Lit.int .i64 a0).wf = true) :
    Calls Try.prog 9 #[.int .i64 a0] w fun e w' => e = .returned (.bool true) ∧ Below w.heap.size w w' := by
  by_cases h : 1 ≤ a0 ∧ a0 ≤ 24
  · obtain ⟨h1, h2⟩ := h
    obtain ⟨count, rfl⟩ := Int.eq_ofNat_of_zero_le (show 0 ≤ a0 by omega)
    have hl := degI_len count (by omega)
    refine degrees_law _ (degI count) (by omega) w (fun w => ?_) (fun w => ?_)
    · rw [hl]; exact specDegrees_in count (by omega) (by omega) w
    · rw [hl]; exact implDegrees_in count (by omega) (by omega) w
  · refine degrees_law a0 [] (by simp) w (fun w => specDegrees_out a0 (by omega) w) (fun w => (implDegrees_out a0 (by omega) w).mono ?_)
    rintro e w' ⟨rfl, rfl⟩
    exact ⟨_, rfl, World.ownsRow_nil _ _ _ _, Below.refl _ _⟩
end Go.Proofs.Ytbkhdiodadjgjaa
