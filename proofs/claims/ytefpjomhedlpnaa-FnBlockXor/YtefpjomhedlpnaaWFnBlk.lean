/- The walk of the law that two blocks put together, and one of both again, are the other one. -/
import Derived.Test.YtefpjomhedlpnaaDrawB
import Derived.Test.YtefpjomhedlpnaaBlkM
import Derived.Test.YtefpjomhedlpnaaWhIn
namespace Go.Proofs.Ytefpjomhedlpnaa
open Go.ChangeShapes Go.WideShapes Go.ChangeAt Go.RowKit

set_option maxHeartbeats 1000000 in
theorem walk_FnBlockXor (a0 : Option Addr) (len0 cap0 : Nat) (z0 : List Int) (w : World) (w0 : IsRow .u8 w a0 len0 cap0 z0) :
    Calls Try.prog 3 #[.slice a0 len0 cap0] w fun e w' => e = .returned (.bool true) ∧ Below w.heap.size w w' := by
  by_cases h : 1048576 < len0
  · have h' : (1048576 : Int) < (len0 : Int) := by omega
    clear w0
    go_enter Try.func3, Try.ntmps3
    go_wp2
    go_ret
    exact ⟨rfl, Below.refl _ _⟩
  · have h' : ¬ (1048576 : Int) < (len0 : Int) := by omega
    go_enter Try.func3, Try.ntmps3
    go_wp2_with fail
    refine (drawBlockXor a0 len0 cap0 z0 w w0).mono ?_
    rintro e w1 ⟨a, b, rfl, ha, hb, bel⟩
    clear w0 h
    have ha2 : a.size ≤ maxLen := by unfold maxLen; omega
    have hb2 : b.size ≤ maxLen := by unfold maxLen; omega
    by_cases hok : a.size = b.size ∧ a.size ≤ 16
    · have hX1 := (block_yes hok).2
      have hX2 := block_size hok
      have hX3 := block_back hok
      have hX4 := block_swap hok
      obtain ⟨X, hX⟩ : ∃ X, blockOf a b = X := ⟨_, rfl⟩
      rw [hX] at hX2 hX3 hX4
      have hX5 : X.size ≤ maxLen := by rw [hX2]; exact ha2
      have H1 := hid (And.intro hX hX1)
      have H3 := hid hX3
      have H4 := hid hX4
      clear hX1 hX3 hX4 hX hok
      go_wp2_with fail
      refine (implBlockXor_any a b _ ha2).mono ?_
      rintro e w2 ⟨rfl, b2⟩
      rw [H1.out.1, H1.out.2]
      go_wp2_with fail
      refine (specBlockXor_any a b _ ha2).mono ?_
      rintro e w3 ⟨rfl, b3⟩
      rw [H1.out.1, H1.out.2]
      go_wp2_with fail
      refine (implBlockXor_any X b _ hX5).mono ?_
      rintro e w4 ⟨rfl, b4⟩
      rw [H3.out.1, H3.out.2]
      go_wp2_with fail
      refine (implBlockXor_any b a _ hb2).mono ?_
      rintro e w5 ⟨rfl, b5⟩
      rw [H4.out.1, H4.out.2]
      have hX6 : (X.size : Int) = a.size := by rw [hX2]
      go_wp2_with fail
      go_ret
      refine ⟨?_, ?_⟩
      · first | rfl | simp [hX2]
      · have q1 := bel.trans (b2.mono bel.size)
        have q2 := q1.trans (b3.mono q1.size)
        have q3 := q2.trans (b4.mono q2.size)
        exact q3.trans (b5.mono q3.size)
    · have hX1 := (block_no hok).2
      obtain ⟨X, hX⟩ : ∃ X, blockOf a b = X := ⟨_, rfl⟩
      have H1 := hid (And.intro hX hX1)
      clear hX1 hX hok
      go_wp2_with fail
      refine (implBlockXor_any a b _ ha2).mono ?_
      rintro e w2 ⟨rfl, b2⟩
      rw [H1.out.1, H1.out.2]
      go_wp2_with fail
      refine (specBlockXor_any a b _ ha2).mono ?_
      rintro e w3 ⟨rfl, b3⟩
      rw [H1.out.1, H1.out.2]
      go_wp2_with fail
      go_ret
      have q1 := bel.trans (b2.mono bel.size)
      exact ⟨rfl, q1.trans (b3.mono q1.size)⟩
end Go.Proofs.Ytefpjomhedlpnaa
