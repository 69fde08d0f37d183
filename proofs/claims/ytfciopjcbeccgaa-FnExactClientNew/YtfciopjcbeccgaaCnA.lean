/- A client that wants nothing: the same, marked, held, as the laws do it. -/
import Derived.Test.YtfciopjcbeccgaaCmn
import Derived.Test.YtfciopjcbeccgaaIn
namespace Go.Proofs.Ytfciopjcbeccgaa
open Go.ChangeShapes Go.WideShapes Go.ChangeAt Go.RowKit

theorem eqIntS_none (w : World) : Calls Try.prog 20 #[.slice none 0 0, .slice none 0 0] w fun e w' => e = .returned (.bool true) ∧ w' = w := by
  go_enter Try.func20, Try.ntmps20
  go_wp2
  refine wp_loop_rounds 1 ?_
  rw [rounds_succ]
  go_wp2
  go_ret
  exact ⟨rfl, rfl⟩
theorem eqEqS_none (w : World) : Calls Try.prog 21 #[.slice none 0 0, .slice none 0 0] w fun e w' => e = .returned (.bool true) ∧ w' = w := by
  go_enter Try.func21, Try.ntmps21
  go_wp2
  refine wp_loop_rounds 1 ?_
  rw [rounds_succ]
  go_wp2
  go_ret
  exact ⟨rfl, rfl⟩
theorem markIntS_none (k : Int) (w : World) : Calls Try.prog 22 #[.slice none 0 0, .int .i64 k] w fun e w' => e = .returned (.int .i64 k) ∧ w' = w := by
  go_enter Try.func22, Try.ntmps22
  go_wp2
  refine wp_loop_rounds 1 ?_
  rw [rounds_succ]
  go_wp2
  go_ret
  exact ⟨rfl, rfl⟩
theorem heldIntS_none (k : Int) (w : World) : Calls Try.prog 24 #[.slice none 0 0, .int .i64 k] w fun e w' => e = .returned (.int .i64 k) ∧ w' = w := by
  go_enter Try.func24, Try.ntmps24
  go_wp2
  refine wp_loop_rounds 1 ?_
  rw [rounds_succ]
  go_wp2
  go_ret
  exact ⟨rfl, rfl⟩
theorem markEqS_none (k : Int) (w : World) : Calls Try.prog 23 #[.slice none 0 0, .int .i64 k] w fun e w' => e = .returned (.int .i64 k) ∧ w' = w := by
  go_enter Try.func23, Try.ntmps23
  go_wp2
  refine wp_loop_rounds 1 ?_
  rw [rounds_succ]
  go_wp2
  go_ret
  exact ⟨rfl, rfl⟩
theorem heldEqS_none (k : Int) (w : World) : Calls Try.prog 25 #[.slice none 0 0, .int .i64 k] w fun e w' => e = .returned (.int .i64 k) ∧ w' = w := by
  go_enter Try.func25, Try.ntmps25
  go_wp2
  refine wp_loop_rounds 1 ?_
  rw [rounds_succ]
  go_wp2
  go_ret
  exact ⟨rfl, rfl⟩
theorem eqSolver_none (c s : Int) (w : World) : Calls Try.prog 15 #[.agg #[.int .i64 c, .int .i64 s, .slice none 0 0], .agg #[.int .i64 c, .int .i64 s, .slice none 0 0]] w fun e w' => e = .returned (.bool true) ∧ Below w.heap.size w w' := by
  go_enter Try.func15, Try.ntmps15
  go_wp2_with (go_at_call 21; refine (eqEqS_none _).mono ?_; rintro e w' ⟨rfl, rfl⟩)
  go_ret
  exact ⟨rfl, u_b2 _ _ _⟩
theorem eqPlan_none (L S : Int) (w : World) : Calls Try.prog 14 #[.agg #[.int .i64 L, .int .i64 S, .slice none 0 0, .slice none 0 0], .agg #[.int .i64 L, .int .i64 S, .slice none 0 0, .slice none 0 0]] w fun e w' => e = .returned (.bool true) ∧ Below w.heap.size w w' := by
  go_enter Try.func14, Try.ntmps14
  go_wp2_with (go_at_call 20; refine (eqIntS_none _).mono ?_; rintro e w' ⟨rfl, rfl⟩)
  go_ret
  exact ⟨rfl, u_b2 _ _ _⟩
theorem markSolver_none (c s k : Int) (w : World) : Calls Try.prog 17 #[.agg #[.int .i64 c, .int .i64 s, .slice none 0 0], .int .i64 k] w fun e w' => e = .returned (.int .i64 k) ∧ Below w.heap.size w w' := by
  go_enter Try.func17, Try.ntmps17
  go_wp2_with (go_at_call 23; refine (markEqS_none _ _).mono ?_; rintro e w' ⟨rfl, rfl⟩)
  go_ret
  exact ⟨rfl, u_b1 _ _⟩
theorem heldSolver_none (c s k : Int) (w : World) (hk : 0 ≤ k) : Calls Try.prog 19 #[.agg #[.int .i64 c, .int .i64 s, .slice none 0 0], .int .i64 k] w fun e w' => e = .returned (.int .i64 k) ∧ Below w.heap.size w w' := by
  go_enter Try.func19, Try.ntmps19
  go_wp2_with (go_at_call 25; refine (heldEqS_none _ _).mono ?_; rintro e w' ⟨rfl, rfl⟩)
  go_ret
  exact ⟨rfl, u_b1 _ _⟩
theorem markPlan_none (L S k : Int) (w : World) : Calls Try.prog 16 #[.agg #[.int .i64 L, .int .i64 S, .slice none 0 0, .slice none 0 0], .int .i64 k] w fun e w' => e = .returned (.int .i64 k) ∧ Below w.heap.size w w' := by
  go_enter Try.func16, Try.ntmps16
  go_wp2_with (go_at_call 22; refine (markIntS_none _ _).mono ?_; rintro e w' ⟨rfl, rfl⟩)
  go_ret
  exact ⟨rfl, u_b1 _ _⟩
theorem heldPlan_none (L S k : Int) (w : World) (hk : 0 ≤ k) : Calls Try.prog 18 #[.agg #[.int .i64 L, .int .i64 S, .slice none 0 0, .slice none 0 0], .int .i64 k] w fun e w' => e = .returned (.int .i64 k) ∧ Below w.heap.size w w' := by
  go_enter Try.func18, Try.ntmps18
  go_wp2_with (go_at_call 24; refine (heldIntS_none _ _).mono ?_; rintro e w' ⟨rfl, rfl⟩)
  go_ret
  exact ⟨rfl, u_b1 _ _⟩

/-- What is known of nothing. -/
abbrev gN : Array Value := #[.int .i64 0, .int .i64 0, .slice none 0 0, .slice none 0 0, .int .i64 0, .int .i64 0, .slice none 0 0]
set_option maxHeartbeats 1000000 in
theorem eqGetting_none (w : World) : Calls Try.prog 11 #[.agg #[.int .i64 0, .int .i64 0, .slice none 0 0, .slice none 0 0, .int .i64 0, .int .i64 0, .slice none 0 0], .agg #[.int .i64 0, .int .i64 0, .slice none 0 0, .slice none 0 0, .int .i64 0, .int .i64 0, .slice none 0 0]] w fun e w' => e = .returned (.bool true) ∧ Below w.heap.size w w' := by
  have X1 := hid (kept (laid w gN 29) (u_b1 _ (.cells gN 29)))
  have X2 := u_laid (w.alloc (.cells gN 29)) gN 29 (g := w.heap.size + 1) (by simp)
  have X2 := hid X2
  have B0 := hid (u_b2 w (.cells gN 29) (.cells gN 29))
  go_enter Try.func11, Try.ntmps11
  go_wp2_with fail
  refine (eqPlan_none 0 0 _).mono ?_
  rintro e w1 ⟨rfl, b1⟩
  have Y1 := hid (kept X1.out b1)
  have Y2 := hid (kept X2.out b1)
  have B1 := hid (u_cat B0.out b1)
  clear b1
  have p4 := box_cell Y1.out 4 (v := .int .i64 0) rfl
  have p5 := box_cell Y1.out 5 (v := .int .i64 0) rfl
  have p6 := box_cell Y1.out 6 (v := .slice none 0 0) rfl
  have q4 := box_cell Y2.out 4 (v := .int .i64 0) rfl
  have q5 := box_cell Y2.out 5 (v := .int .i64 0) rfl
  have q6 := box_cell Y2.out 6 (v := .slice none 0 0) rfl
  go_wp2_with fail
  refine (eqSolver_none 0 0 _).mono ?_
  rintro e w2 ⟨rfl, b2⟩
  have B2 := hid (u_cat B1.out b2)
  clear b2
  go_wp2_with fail
  go_ret
  exact ⟨rfl, B2.out⟩
set_option maxHeartbeats 1000000 in
theorem markGetting_none (k : Int) (w : World) : Calls Try.prog 12 #[.agg #[.int .i64 0, .int .i64 0, .slice none 0 0, .slice none 0 0, .int .i64 0, .int .i64 0, .slice none 0 0], .int .i64 k] w fun e w' => e = .returned (.int .i64 k) ∧ Below w.heap.size w w' := by
  have X1 := hid (laid w gN 29)
  have B0 := hid (u_b1 w (.cells gN 29))
  go_enter Try.func12, Try.ntmps12
  go_wp2_with fail
  refine (markPlan_none 0 0 k _).mono ?_
  rintro e w1 ⟨rfl, b1⟩
  have Y1 := hid (kept X1.out b1)
  have B1 := hid (u_cat B0.out b1)
  clear b1
  have p4 := box_cell Y1.out 4 (v := .int .i64 0) rfl
  have p5 := box_cell Y1.out 5 (v := .int .i64 0) rfl
  have p6 := box_cell Y1.out 6 (v := .slice none 0 0) rfl
  go_wp2_with fail
  refine (markSolver_none 0 0 k _).mono ?_
  rintro e w2 ⟨rfl, b2⟩
  have B2 := hid (u_cat B1.out b2)
  clear b2
  go_wp2_with fail
  go_ret
  exact ⟨rfl, B2.out⟩
set_option maxHeartbeats 1000000 in
theorem heldGetting_none (k : Int) (w : World) (hk : 0 ≤ k) : Calls Try.prog 13 #[.agg #[.int .i64 0, .int .i64 0, .slice none 0 0, .slice none 0 0, .int .i64 0, .int .i64 0, .slice none 0 0], .int .i64 k] w fun e w' => e = .returned (.int .i64 k) ∧ Below w.heap.size w w' := by
  have X1 := hid (laid w gN 29)
  have B0 := hid (u_b1 w (.cells gN 29))
  go_enter Try.func13, Try.ntmps13
  go_wp2_with fail
  refine (heldPlan_none 0 0 k _ hk).mono ?_
  rintro e w1 ⟨rfl, b1⟩
  have Y1 := hid (kept X1.out b1)
  have B1 := hid (u_cat B0.out b1)
  clear b1
  have p4 := box_cell Y1.out 4 (v := .int .i64 0) rfl
  have p5 := box_cell Y1.out 5 (v := .int .i64 0) rfl
  have p6 := box_cell Y1.out 6 (v := .slice none 0 0) rfl
  go_wp2_with fail
  refine (heldSolver_none 0 0 k _ hk).mono ?_
  rintro e w2 ⟨rfl, b2⟩
  have B2 := hid (u_cat B1.out b2)
  clear b2
  go_wp2_with fail
  go_ret
  exact ⟨rfl, B2.out⟩
end Go.Proofs.Ytfciopjcbeccgaa
