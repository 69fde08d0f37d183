/- Solvers without equations, and the walk of their law. -/
import Derived.Test.YtbkhdiodadjgjaaIn
namespace Go.Proofs.Ytbkhdiodadjgjaa
open Go.ChangeShapes Go.WideShapes Go.ChangeAt Go.RowKit

theorem specSolverNew_in (c s : Int) (w : World) (h1 : 1 ≤ c ∧ c ≤ 24) (h2 : 1 ≤ s ∧ s ≤ 16) :
    Calls Try.prog 22 #[.int .i64 c, .int .i64 s] w fun e w' => e = .returned (.agg #[.int .i64 c, .int .i64 s, .slice none 0 0]) ∧ Below w.heap.size w w' := by
  go_enter Try.func22, Try.ntmps22
  go_wp2_with (go_at_call 37; refine (l1In_yes _ _ _ _ (by omega)).mono ?_; rintro e w' ⟨rfl, rfl⟩)
  exact bodyPost_ret (v := .agg #[.int .i64 c, .int .i64 s, .slice none 0 0]) (by simp [results, Try.results22, go_sem]) rfl ⟨rfl, (Below.refl _ _).alloc (Nat.le_refl _) _⟩

theorem specSolverNew_out (c s : Int) (w : World) (h : ¬ ((1 ≤ c ∧ c ≤ 24) ∧ 1 ≤ s ∧ s ≤ 16)) :
    Calls Try.prog 22 #[.int .i64 c, .int .i64 s] w fun e w' => e = .returned (.agg #[.int .i64 0, .int .i64 0, .slice none 0 0]) ∧ Below w.heap.size w w' := by
  by_cases h1 : 1 ≤ c ∧ c ≤ 24
  · have h2 : s < 1 ∨ 16 < s := by omega
    clear h
    go_enter Try.func22, Try.ntmps22
    go_wp2_with (first
      | (go_at_call 37; refine (l1In_yes _ _ _ _ (by omega)).mono ?_; rintro e w' ⟨rfl, rfl⟩)
      | (go_at_call 37; refine (l1In_no _ _ _ _ (by omega)).mono ?_; rintro e w' ⟨rfl, rfl⟩))
    exact bodyPost_ret (v := .agg #[.int .i64 0, .int .i64 0, .slice none 0 0]) (by simp [results, Try.results22, go_sem]) rfl ⟨rfl, (Below.refl _ _).alloc (Nat.le_refl _) _⟩
  · have h2 : c < 1 ∨ 24 < c := by omega
    clear h h1
    go_enter Try.func22, Try.ntmps22
    go_wp2_with (go_at_call 37; refine (l1In_no _ _ _ _ (by omega)).mono ?_; rintro e w' ⟨rfl, rfl⟩)
    exact bodyPost_ret (v := .agg #[.int .i64 0, .int .i64 0, .slice none 0 0]) (by simp [results, Try.results22, go_sem]) rfl ⟨rfl, (Below.refl _ _).alloc (Nat.le_refl _) _⟩

theorem sizesOk_yes (c s : Int) (w : World) (h1 : 1 ≤ c ∧ c ≤ 24) (h2 : 1 ≤ s ∧ s ≤ 16) :
    Calls Try.prog 44 #[.int .i64 c, .int .i64 s] w fun e w' => e = .returned (.bool true) ∧ w' = w := by
  obtain ⟨h3, h4⟩ := h1
  obtain ⟨h5, h6⟩ := h2
  go_enter Try.func44, Try.ntmps44
  go_wp2
  go_ret
  exact ⟨rfl, rfl⟩

theorem sizesOk_no (c s : Int) (w : World) (h : ¬ ((1 ≤ c ∧ c ≤ 24) ∧ 1 ≤ s ∧ s ≤ 16)) :
    Calls Try.prog 44 #[.int .i64 c, .int .i64 s] w fun e w' => e = .returned (.bool false) ∧ w' = w := by
  by_cases h1 : 1 ≤ c
  · by_cases h2 : c ≤ 24
    · by_cases h3 : 1 ≤ s
      · have h4 : decide (s ≤ 16) = false := by simp; omega
        clear h
        go_enter Try.func44, Try.ntmps44
        go_wp2
        go_ret
        exact ⟨rfl, rfl⟩
      · have h4 : decide (1 ≤ s) = false := by simp; omega
        clear h h3
        go_enter Try.func44, Try.ntmps44
        go_wp2
        go_ret
        exact ⟨rfl, rfl⟩
    · have h4 : decide (c ≤ 24) = false := by simp; omega
      clear h h2
      go_enter Try.func44, Try.ntmps44
      go_wp2
      go_ret
      exact ⟨rfl, rfl⟩
  · have h4 : decide (1 ≤ c) = false := by simp; omega
    clear h h1
    go_enter Try.func44, Try.ntmps44
    go_wp2
    go_ret
    exact ⟨rfl, rfl⟩

theorem implSolverNew_in (c s : Int) (w : World) (h1 : 1 ≤ c ∧ c ≤ 24) (h2 : 1 ≤ s ∧ s ≤ 16) :
    Calls Try.prog 23 #[.int .i64 c, .int .i64 s] w fun e w' => e = .returned (.agg #[.int .i64 c, .int .i64 s, .slice none 0 0]) ∧ Below w.heap.size w w' := by
  go_enter Try.func23, Try.ntmps23
  go_wp2_with (go_at_call 44; refine (sizesOk_yes c s _ h1 h2).mono ?_; rintro e w' ⟨rfl, rfl⟩)
  exact bodyPost_ret (v := .agg #[.int .i64 c, .int .i64 s, .slice none 0 0]) (by simp [results, Try.results23, go_sem]) rfl ⟨rfl, (Below.refl _ _).alloc (Nat.le_refl _) _⟩

theorem implSolverNew_out (c s : Int) (w : World) (h : ¬ ((1 ≤ c ∧ c ≤ 24) ∧ 1 ≤ s ∧ s ≤ 16)) :
    Calls Try.prog 23 #[.int .i64 c, .int .i64 s] w fun e w' => e = .returned (.agg #[.int .i64 0, .int .i64 0, .slice none 0 0]) ∧ Below w.heap.size w w' := by
  have HH : Hid _ := h
  clear h
  go_enter Try.func23, Try.ntmps23
  go_wp2_with (go_at_call 44; refine (sizesOk_no c s _ HH.out).mono ?_; rintro e w' ⟨rfl, rfl⟩)
  exact bodyPost_ret (v := .agg #[.int .i64 0, .int .i64 0, .slice none 0 0]) (by simp [results, Try.results23, go_sem]) rfl ⟨rfl, (Below.refl _ _).alloc (Nat.le_refl _) _⟩

theorem eqEqS_nil (w : World) : Calls Try.prog 45 #[.slice none 0 0, .slice none 0 0] w fun e w' => e = .returned (.bool true) ∧ w' = w := by
  go_enter Try.func45, Try.ntmps45
  go_wp2
  refine wp_loop_rounds 1 ?_
  rw [rounds_succ]
  go_wp2
  go_ret
  exact ⟨rfl, rfl⟩
theorem markEqS_nil (k : Int) (w : World) : Calls Try.prog 46 #[.slice none 0 0, .int .i64 k] w fun e w' => e = .returned (.int .i64 k) ∧ w' = w := by
  go_enter Try.func46, Try.ntmps46
  go_wp2
  refine wp_loop_rounds 1 ?_
  rw [rounds_succ]
  go_wp2
  go_ret
  exact ⟨rfl, rfl⟩
theorem heldEqS_nil (k : Int) (w : World) : Calls Try.prog 47 #[.slice none 0 0, .int .i64 k] w fun e w' => e = .returned (.int .i64 k) ∧ w' = w := by
  go_enter Try.func47, Try.ntmps47
  go_wp2
  refine wp_loop_rounds 1 ?_
  rw [rounds_succ]
  go_wp2
  go_ret
  exact ⟨rfl, rfl⟩
theorem eqSolver_nil (c s : Int) (w : World) : Calls Try.prog 24 #[.agg #[.int .i64 c, .int .i64 s, .slice none 0 0], .agg #[.int .i64 c, .int .i64 s, .slice none 0 0]] w fun e w' => e = .returned (.bool true) ∧ Below w.heap.size w w' := by
  go_enter Try.func24, Try.ntmps24
  go_wp2_with (go_at_call 45; refine (eqEqS_nil _).mono ?_; rintro e w' ⟨rfl, rfl⟩)
  go_ret
  exact ⟨rfl, ((Below.refl _ _).alloc (Nat.le_refl _) _).alloc (by simp) _⟩
theorem markSolver_nil (c s k : Int) (w : World) : Calls Try.prog 25 #[.agg #[.int .i64 c, .int .i64 s, .slice none 0 0], .int .i64 k] w fun e w' => e = .returned (.int .i64 k) ∧ Below w.heap.size w w' := by
  go_enter Try.func25, Try.ntmps25
  go_wp2_with (go_at_call 46; refine (markEqS_nil _ _).mono ?_; rintro e w' ⟨rfl, rfl⟩)
  go_ret
  exact ⟨rfl, (Below.refl _ _).alloc (Nat.le_refl _) _⟩
theorem heldSolver_nil (c s k : Int) (w : World) (hk : 0 ≤ k) : Calls Try.prog 26 #[.agg #[.int .i64 c, .int .i64 s, .slice none 0 0], .int .i64 k] w fun e w' => e = .returned (.int .i64 k) ∧ Below w.heap.size w w' := by
  go_enter Try.func26, Try.ntmps26
  go_wp2_with (go_at_call 47; refine (heldEqS_nil _ _).mono ?_; rintro e w' ⟨rfl, rfl⟩)
  go_ret
  exact ⟨rfl, (Below.refl _ _).alloc (Nat.le_refl _) _⟩

/-- A solver without equations in a block of its own. -/
def Box (w : World) (g : Nat) (c s : Int) : Prop := w.heap[g]? = some (.cells #[.int .i64 c, .int .i64 s, .slice none 0 0] 37 (0, 0))
theorem Box.cells {w : World} {g : Nat} {c s : Int} (h : Box w g c s) : w.cell? ⟨g, 0, none⟩ = some (.int .i64 c) ∧ w.cell? ⟨g, 1, none⟩ = some (.int .i64 s) ∧ w.cell? ⟨g, 2, none⟩ = some (.slice none 0 0) := by
  unfold Box at h
  refine ⟨?_, ?_, ?_⟩ <;> simp [World.cell?, h]
theorem Box.lt {w : World} {g : Nat} {c s : Int} (h : Box w g c s) : g < w.heap.size := lt_of_block h
theorem Box.kept {w w' : World} {g : Nat} {c s : Int} (h : Box w g c s) (hb : Below w.heap.size w w') : Box w' g c s := by
  unfold Box; rw [hb.block g h.lt]; exact h
theorem box_new (w : World) (c s : Int) : Box (w.alloc (.cells #[.int .i64 c, .int .i64 s, .slice none 0 0] 37)) w.heap.size c s := heap_alloc_new w _
theorem below_alloc (w : World) (o : Obj) : Below w.heap.size w (w.alloc o) := (Below.refl _ _).alloc (Nat.le_refl _) o
theorem below_cat {a b c : World} (h : Below a.heap.size a b) (k : Below b.heap.size b c) : Below a.heap.size a c := h.trans (k.mono h.size)

set_option maxHeartbeats 2000000 in
theorem solverNew_law (a0 a1 c s : Int) (w : World)
    (hs : ∀ w : World, Calls Try.prog 22 #[.int .i64 a0, .int .i64 a1] w fun e w' => e = .returned (.agg #[.int .i64 c, .int .i64 s, .slice none 0 0]) ∧ Below w.heap.size w w')
    (hi : ∀ w : World, Calls Try.prog 23 #[.int .i64 a0, .int .i64 a1] w fun e w' => e = .returned (.agg #[.int .i64 c, .int .i64 s, .slice none 0 0]) ∧ Below w.heap.size w w') :
    Calls Try.prog 6 #[.int .i64 a0, .int .i64 a1] w fun e w' => e = .returned (.bool true) ∧ Below w.heap.size w w' := by
  go_enter Try.func6, Try.ntmps6
  go_wp2_with fail
  refine (hs _).mono ?_
  rintro e w1 ⟨rfl, b1⟩
  go_wp2_with fail
  refine (hi _).mono ?_
  rintro e w2 ⟨rfl, b2⟩
  have x1 : Box w2 w1.heap.size c s := (box_new w1 c s).kept b2
  have l1 := x1.lt
  obtain ⟨p0, p1, p2⟩ := x1.cells
  have y1 : Box (w2.alloc (.cells #[.int .i64 c, .int .i64 s, .slice none 0 0] 37)) w1.heap.size c s := x1.kept (below_alloc _ _)
  have y2 := box_new w2 c s
  have B2 : Hid (Below w.heap.size w (w2.alloc (.cells #[.int .i64 c, .int .i64 s, .slice none 0 0] 37))) := below_cat (below_cat (below_cat b1 (below_alloc _ _)) b2) (below_alloc _ _)
  have Y1 := hid y1
  have Y2 := hid y2
  clear b1 b2 x1 y1 y2
  go_wp2_with fail
  refine (eqSolver_nil c s _).mono ?_
  rintro e w3 ⟨rfl, b3⟩
  have B3 : Hid (Below w.heap.size w w3) := below_cat B2.out b3
  have y2 := Y2.out.kept b3
  have Z1 : Hid (Box w3 w1.heap.size c s) := Y1.out.kept b3
  have Z2 : Hid (Box w3 w2.heap.size c s) := y2
  obtain ⟨q0, q1, q2⟩ := y2.cells
  clear p0 p1 p2 b3 y2 Y1 Y2 B2
  go_wp2_with fail
  refine (markSolver_nil c s 1 _).mono ?_
  rintro e w4 ⟨rfl, b4⟩
  have B4 : Hid (Below w.heap.size w w4) := below_cat B3.out b4
  have Y1 : Hid (Box w4 w1.heap.size c s) := Z1.out.kept b4
  have y2 := Z2.out.kept b4
  have Y2 : Hid (Box w4 w2.heap.size c s) := y2
  clear q0 q1 q2 b4 Z1 Z2 B3
  obtain ⟨q0, q1, q2⟩ := y2.cells
  clear y2
  go_wp2_with fail
  refine (heldSolver_nil c s 1 _ (by omega)).mono ?_
  rintro e w5 ⟨rfl, b5⟩
  have B5 : Hid (Below w.heap.size w w5) := below_cat B4.out b5
  have Z1 : Hid (Box w5 w1.heap.size c s) := Y1.out.kept b5
  have Z2 : Hid (Box w5 w2.heap.size c s) := Y2.out.kept b5
  clear q0 q1 q2 b5 Y1 Y2 B4
  go_wp2_with fail
  refine (hi _).mono ?_
  rintro e w6 ⟨rfl, b6⟩
  have y1 := Z1.out.kept b6
  have l2 := y1.lt
  obtain ⟨p0, p1, p2⟩ := y1.cells
  have Y2 : Hid (Box (w6.alloc (.cells #[.int .i64 c, .int .i64 s, .slice none 0 0] 37)) w2.heap.size c s) := (Z2.out.kept b6).kept (below_alloc _ _)
  have B6 : Hid (Below w.heap.size w (w6.alloc (.cells #[.int .i64 c, .int .i64 s, .slice none 0 0] 37))) := below_cat (below_cat B5.out b6) (below_alloc _ _)
  clear b6 Z1 Z2 B5 y1
  go_wp2_with fail
  refine (eqSolver_nil c s _).mono ?_
  rintro e w7 ⟨rfl, b7⟩
  have B7 : Hid (Below w.heap.size w w7) := below_cat B6.out b7
  have y2 := Y2.out.kept b7
  obtain ⟨q0, q1, q2⟩ := y2.cells
  clear p0 p1 p2 b7 y2 Y2 B6
  go_wp2_with fail
  refine (heldSolver_nil c s 1 _ (by omega)).mono ?_
  rintro e w8 ⟨rfl, b8⟩
  have B8 : Hid (Below w.heap.size w w8) := below_cat B7.out b8
  clear q0 q1 q2 b8
  go_wp2_with fail
  go_ret
  exact ⟨rfl, B8.out⟩

theorem walk_FnExactSolverNew (a0 : Int) (a1 : Int) (w : World) (_w0 : (Lit.int .i64 a0).wf = true) (_w1 : (Lit.int .i64 a1).wf = true) :
    Calls Try.prog 6 #[.int .i64 a0, .int .i64 a1] w fun e w' => e = .returned (.bool true) ∧ Below w.heap.size w w' := by
  by_cases h : (1 ≤ a0 ∧ a0 ≤ 24) ∧ 1 ≤ a1 ∧ a1 ≤ 16
  · exact solverNew_law a0 a1 a0 a1 w (fun w => specSolverNew_in a0 a1 w h.1 h.2) (fun w => implSolverNew_in a0 a1 w h.1 h.2)
  · exact solverNew_law a0 a1 0 0 w (fun w => specSolverNew_out a0 a1 w h) (fun w => implSolverNew_out a0 a1 w h)
end Go.Proofs.Ytbkhdiodadjgjaa
