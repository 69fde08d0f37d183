/- The walk of the law on rows. -/
import Derived.Test.YtbkhdiodadjgjaaRow
namespace Go.Proofs.Ytbkhdiodadjgjaa
open Go.ChangeShapes Go.WideShapes Go.ChangeAt Go.RowKit

set_option maxHeartbeats 1000000 in
theorem rowOk_law (a0 : Option Addr) (cap0 : Nat) (xs : List Int) (a1 : Int) (w : World) (i0 : IntsAt w a0 xs) (hx : xs.length ≤ 1048576) (hb1 : -9223372036854775808 ≤ a1) (hb2 : a1 ≤ 9223372036854775807) :
    Calls Try.prog 3 #[.slice a0 xs.length cap0, .int .i64 a1] w fun e w' => e = .returned (.bool true) ∧ Below w.heap.size w w' := by
  have hx2 : ¬ (1048576 : Int) < (xs.length : Int) := by omega
  go_enter Try.func3, Try.ntmps3
  go_wp2_with fail
  refine (toIntS_any a0 cap0 xs w i0 hx).mono ?_
  rintro e w1 ⟨v1, rfl, o1, b1⟩
  obtain ⟨p1, c1, rfl, -, i1⟩ := owns_ints o1
  go_wp2_with fail
  refine (specRowOk_any p1 c1 xs a1 w1 i1 (by omega) hb1 hb2).mono ?_
  rintro e w2 ⟨rfl, d2⟩
  have b2 := b1.trans (d2.below _)
  go_wp2_with fail
  refine (toIntS_any a0 cap0 xs w2 (i0.below b2) hx).mono ?_
  rintro e w3 ⟨v3, rfl, o3, b3⟩
  obtain ⟨p3, c3, rfl, -, i3⟩ := owns_ints o3
  have b3' := b2.trans (b3.mono b2.size)
  go_wp2_with fail
  refine (implRowOk_in p3 c3 xs a1 w3 i3 (by omega)).mono ?_
  rintro e w4 ⟨rfl, rfl⟩
  go_wp2_with fail
  refine (toIntS_any a0 cap0 xs w4 (i0.below b3') hx).mono ?_
  rintro e w5 ⟨v5, rfl, o5, b5⟩
  obtain ⟨p5, c5, rfl, -, i5⟩ := owns_ints o5
  go_wp2_with fail
  refine (eqIntS_any p3 p5 c3 c5 xs xs w5 (i3.below b5) i5 (by omega)).mono ?_
  rintro e w6 ⟨rfl, n6, rfl⟩
  go_wp2_with fail
  go_ret
  exact ⟨rfl, below_drewN (b3'.trans (b5.mono b3'.size)) n6⟩

theorem walk_FnExactRowOk (a0 : Option Addr) (len0 cap0 : Nat) (z0 : List Int) (a1 : Int) (w : World) (w0 : IsRow .i64 w a0 len0 cap0 z0) (w1 : (Lit.int .i64 a1).wf = true) :
    Calls Try.prog 3 #[.slice a0 len0 cap0, .int .i64 a1] w fun e w' => e = .returned (.bool true) ∧ Below w.heap.size w w' := by
  by_cases h : len0 ≤ 1048576
  · have hl := isRow_len w0
    have hb := bounds_i64 w1
    have := rowOk_law a0 cap0 (z0.take len0) a1 w (isRow_ints w0) (by omega) hb.1 hb.2
    rw [hl] at this
    exact this
  · have h' : (1048576 : Int) < (len0 : Int) := by omega
    clear w0 w1
    go_enter Try.func3, Try.ntmps3
    go_wp2
    go_ret
    exact ⟨rfl, Below.refl _ _⟩
end Go.Proofs.Ytbkhdiodadjgjaa
