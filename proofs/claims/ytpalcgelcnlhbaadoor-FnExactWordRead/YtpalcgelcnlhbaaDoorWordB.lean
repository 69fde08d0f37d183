/- Words: what is ok by the program. -/
import Derived.Test.YtpalcgelcnlhbaaDoorName
import Derived.Test.YtpalcgelcnlhbaaDoorQB
namespace Go.Proofs.YtpalcgelcnlhbaaDoor
open Go.ChangeShapes Go.WideShapes Go.ChangeAt Go.RowKit Go.Sort

theorem below_allocW (w : World) (o : Obj) : Below w.heap.size w (w.alloc o) := (Below.refl _ _).alloc (Nat.le_refl _) o
theorem below_catW {a b c : World} (h : Below a.heap.size a b) (k : Below b.heap.size b c) : Below a.heap.size a c := h.trans (k.mono h.size)
/-- Counts, editions, data that may be. -/
def cntB (n : Int) : Bool := decide (0 ≤ n ∧ n ≤ 99999)
def edB (n : Int) : Bool := decide (1 ≤ n ∧ n ≤ 99999)
def datB (s : ByteArray) : Bool := decide (1 ≤ s.size ∧ s.size ≤ 80)
theorem cntB_any (n : Int) (w : World) : Calls Tryd.prog 32 #[.int .i64 n] w fun e w' => e = .returned (.bool (cntB n)) ∧ w' = w := by
  by_cases h1 : 0 ≤ n
  · by_cases h2 : n ≤ 99999
    · have H := hid (show cntB n = true from decide_eq_true (by omega))
      go_enter Tryd.func32, Tryd.ntmps32
      go_wp2
      go_ret
      exact ⟨ret_bool H.out.symm, rfl⟩
    · have h2' : decide (n ≤ 99999) = false := by simpa using h2
      have H := hid (show cntB n = false from decide_eq_false (by omega))
      go_enter Tryd.func32, Tryd.ntmps32
      go_wp2
      go_ret
      exact ⟨ret_bool H.out.symm, rfl⟩
  · have h1' : decide (0 ≤ n) = false := by simpa using h1
    have H := hid (show cntB n = false from decide_eq_false (by omega))
    go_enter Tryd.func32, Tryd.ntmps32
    go_wp2
    go_ret
    exact ⟨ret_bool H.out.symm, rfl⟩
theorem edB_any (n : Int) (w : World) : Calls Tryd.prog 42 #[.int .i64 n] w fun e w' => e = .returned (.bool (edB n)) ∧ w' = w := by
  by_cases h1 : 1 ≤ n
  · by_cases h2 : n ≤ 99999
    · have H := hid (show edB n = true from decide_eq_true (by omega))
      go_enter Tryd.func42, Tryd.ntmps42
      go_wp2
      go_ret
      exact ⟨ret_bool H.out.symm, rfl⟩
    · have h2' : decide (n ≤ 99999) = false := by simpa using h2
      have H := hid (show edB n = false from decide_eq_false (by omega))
      go_enter Tryd.func42, Tryd.ntmps42
      go_wp2
      go_ret
      exact ⟨ret_bool H.out.symm, rfl⟩
  · have h1' : decide (1 ≤ n) = false := by simpa using h1
    have H := hid (show edB n = false from decide_eq_false (by omega))
    go_enter Tryd.func42, Tryd.ntmps42
    go_wp2
    go_ret
    exact ⟨ret_bool H.out.symm, rfl⟩
theorem datB_any (s : ByteArray) (w : World) : Calls Tryd.prog 43 #[.string s] w fun e w' => e = .returned (.bool (datB s)) ∧ w' = w := by
  by_cases h1 : 1 ≤ (s.size : Int)
  · by_cases h2 : (s.size : Int) ≤ 80
    · have H := hid (show datB s = true from decide_eq_true (by omega))
      go_enter Tryd.func43, Tryd.ntmps43
      go_wp2
      go_ret
      exact ⟨ret_bool H.out.symm, rfl⟩
    · have h2' : decide ((s.size : Int) ≤ 80) = false := by simpa using h2
      have H := hid (show datB s = false from decide_eq_false (by omega))
      go_enter Tryd.func43, Tryd.ntmps43
      go_wp2
      go_ret
      exact ⟨ret_bool H.out.symm, rfl⟩
  · have h1' : decide (1 ≤ (s.size : Int)) = false := by simpa using h1
    have H := hid (show datB s = false from decide_eq_false (by omega))
    go_enter Tryd.func43, Tryd.ntmps43
    go_wp2
    go_ret
    exact ⟨ret_bool H.out.symm, rfl⟩
end Go.Proofs.YtpalcgelcnlhbaaDoor
