/- The walk of the law on words read. -/
import Derived.Test.YtpalcgelcnlhbaaDoorWrE
namespace Go.Proofs.YtpalcgelcnlhbaaDoor
open Go.ChangeShapes Go.WideShapes Go.ChangeAt Go.RowKit Go.Sort

set_option maxHeartbeats 2000000 in
set_option maxRecDepth 100000 in
theorem eqWord_same (k c t e n : Int) (name data : ByteArray) (w : World) :
    Calls Tryd.prog 6 #[.agg #[.int .i64 k, .int .i64 c, .int .i64 t, .int .i64 e, .int .i64 n, .string name, .string data], .agg #[.int .i64 k, .int .i64 c, .int .i64 t, .int .i64 e, .int .i64 n, .string name, .string data]] w fun r w' => r = .returned (.bool true) ∧ Below w.heap.size w w' := by
  go_enter Tryd.func6, Tryd.ntmps6
  go_wp2_with fail
  go_ret
  exact ⟨rfl, below_catD (below_newD _ _) (below_newD _ _)⟩

/-- Both answer alike. -/
theorem read_both (s : ByteArray) (hs : s.size ≤ 1048576) : ∃ (k c t e n : Int) (name data : ByteArray) (b : Bool),
    (∀ w, Calls Tryd.prog 4 #[.string s] w fun r w' => r = .returned (.tuple #[.agg #[.int .i64 k, .int .i64 c, .int .i64 t, .int .i64 e, .int .i64 n, .string name, .string data], .bool b]) ∧ Below w.heap.size w w') ∧
    (∀ w, Env w → Calls Tryd.prog 5 #[.string s] w fun r w' => r = .returned (.tuple #[.agg #[.int .i64 k, .int .i64 c, .int .i64 t, .int .i64 e, .int .i64 n, .string name, .string data], .bool b]) ∧ Below w.heap.size w w') := by
  by_cases h : ∃ k c t e n name data, Good s k c t e n name data
  · obtain ⟨k, c, t, e, n, name, data, h⟩ := h
    exact ⟨k, c, t, e, n, name, data, true, fun w => specWordRead_yes s k c t e n name data w h, fun w he => implWordRead_yes s k c t e n name data w h he⟩
  · have hno : ∀ k c t e n name data, ¬ Good s k c t e n name data := fun k c t e n name data g => h ⟨k, c, t, e, n, name, data, g⟩
    exact ⟨0, 0, 0, 0, 0, ⟨#[]⟩, ⟨#[]⟩, false, fun w => specWordRead_no s w hs hno, fun w he => implWordRead_no s w hs hno he⟩

set_option maxHeartbeats 2000000 in
set_option maxRecDepth 100000 in
theorem walk_FnExactWordRead (a0 : ByteArray) (w : World) (w0 : a0.size ≤ maxLen) (he : Env w) :
    Calls Tryd.prog 3 #[.string a0] w fun r w' => r = .returned (.bool true) ∧ Below w.heap.size w w' := by
  unfold maxLen at w0
  by_cases h : a0.size ≤ 1048576
  · obtain ⟨k, c, t, e, n, name, data, b, hS, hI⟩ := read_both a0 h
    have HS := hid hS
    have HI := hid hI
    have HE := hid he
    have d0 : decide ((1048576 : Int) < (a0.size : Int)) = false := decide_eq_false (by omega)
    clear hS hI he
    go_enter Tryd.func3, Tryd.ntmps3
    go_wp2_with (first
      | (go_at_call 4; refine (HS.out _).mono ?_; rintro r w1 ⟨rfl, b1⟩; have B1 := hid (below_catD b1 (below_newD w1 (.cells #[.int .i64 k, .int .i64 c, .int .i64 t, .int .i64 e, .int .i64 n, .string name, .string data] 23))); clear b1)
      | (go_at_call 5; refine (HI.out _ (HE.out.below B1.out)).mono ?_; rintro r w2 ⟨rfl, b2⟩; have B2 := hid (below_catD B1.out b2); have X2 := hid (kept (laid w1 #[.int .i64 k, .int .i64 c, .int .i64 t, .int .i64 e, .int .i64 n, .string name, .string data] 23) b2); have q0 := box_cell X2.out 0 (v := .int .i64 k) rfl; have q1 := box_cell X2.out 1 (v := .int .i64 c) rfl; have q2 := box_cell X2.out 2 (v := .int .i64 t) rfl; have q3 := box_cell X2.out 3 (v := .int .i64 e) rfl; have q4 := box_cell X2.out 4 (v := .int .i64 n) rfl; have q5 := box_cell X2.out 5 (v := .string name) rfl; have q6 := box_cell X2.out 6 (v := .string data) rfl; have l1 := lt_of_block X2.out; clear b2)
      | (go_at_call 6; refine (eqWord_same k c t e n name data _).mono ?_; rintro r w3 ⟨rfl, b3⟩; have B3 := hid (below_catD (below_catD B2.out (below_newD _ _)) b3); clear b3))
    go_ret
    exact ⟨rfl, B3.out⟩
  · have d0 : decide ((1048576 : Int) < (a0.size : Int)) = true := decide_eq_true (by omega)
    go_enter Tryd.func3, Tryd.ntmps3
    go_wp2_with fail
    go_ret
    exact ⟨rfl, Below.refl _ _⟩
end Go.Proofs.YtpalcgelcnlhbaaDoor
