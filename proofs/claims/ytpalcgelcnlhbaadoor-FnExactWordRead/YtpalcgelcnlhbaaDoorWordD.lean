/- Words: kinds 4 to 6. -/
import Derived.Test.YtpalcgelcnlhbaaDoorWordB
namespace Go.Proofs.YtpalcgelcnlhbaaDoor
open Go.ChangeShapes Go.WideShapes Go.ChangeAt Go.RowKit Go.Sort


theorem kindOf_4 (c t e n : Int) (name data : ByteArray) (w : World) :
    Calls Tryd.prog 31 #[.agg #[.int .i64 4, .int .i64 c, .int .i64 t, .int .i64 e, .int .i64 n, .string name, .string data]] w fun r w' => r = .returned (.iface 71 (.agg #[.int .i64 e, .int .i64 n])) ∧ Below w.heap.size w w' := by
  go_enter Tryd.func31, Tryd.ntmps31
  go_wp2
  go_ret
  exact ⟨rfl, below_allocW _ _⟩
theorem kindWord_4 (e : Int) (n : Int) (w : World) :
    Calls Tryd.prog 100 #[.agg #[.int .i64 e, .int .i64 n]] w fun r w' => r = .returned (.agg #[.int .i64 4, .int .i64 0, .int .i64 0, .int .i64 e, .int .i64 n, .string ⟨#[]⟩, .string ⟨#[]⟩]) ∧ Below w.heap.size w w' := by
  go_enter Tryd.func100, Tryd.ntmps100
  go_wp2
  exact bodyPost_ret (v := .agg #[.int .i64 4, .int .i64 0, .int .i64 0, .int .i64 e, .int .i64 n, .string ⟨#[]⟩, .string ⟨#[]⟩]) (by simp [results, Tryd.results100, go_sem]) rfl ⟨rfl, below_catW (below_allocW _ _) (below_allocW _ _)⟩
set_option maxHeartbeats 2000000 in
theorem kindFrom_4 (c t : Int) (e : Int) (n : Int) (w : World) :
    Calls Tryd.prog 34 #[.iface 71 (.agg #[.int .i64 e, .int .i64 n]), .int .i64 c, .int .i64 t] w fun r w' => r = .returned (.agg #[.int .i64 4, .int .i64 c, .int .i64 t, .int .i64 e, .int .i64 n, .string ⟨#[]⟩, .string ⟨#[]⟩]) ∧ Below w.heap.size w w' := by
  have hm : ∀ w : World, (method 234 71 (.agg #[.int .i64 e, .int .i64 n]) "loop.example/wellhead/impl.word").run Tryd.prog w = .ok (100, .agg #[.int .i64 e, .int .i64 n]) w := fun _ => by kernel_rfl
  go_enter Tryd.func34, Tryd.ntmps34
  go_wp2_with fail
  refine (kindWord_4 e n _).mono ?_
  rintro r w1 ⟨rfl, b1⟩
  have R1 := hid (kept (laid w #[.int .i64 0, .int .i64 0, .int .i64 0, .int .i64 0, .int .i64 0, .string ⟨#[]⟩, .string ⟨#[]⟩] 23) b1)
  have B1 := hid (below_catW (below_allocW _ _) b1)
  have hl : w.heap.size < w1.heap.size := lt_of_block R1.out
  clear b1 hm
  have r0 := box_cell R1.out 0 (v := .int .i64 0) rfl
  have r1 := box_cell R1.out 1 (v := .int .i64 0) rfl
  have r2 := box_cell R1.out 2 (v := .int .i64 0) rfl
  have r3 := box_cell R1.out 3 (v := .int .i64 0) rfl
  have r4 := box_cell R1.out 4 (v := .int .i64 0) rfl
  have r5 := box_cell R1.out 5 (v := .string ⟨#[]⟩) rfl
  have r6 := box_cell R1.out 6 (v := .string ⟨#[]⟩) rfl
  have f0 := box_frozen R1.out 0
  have f1 := box_frozen R1.out 1
  have f2 := box_frozen R1.out 2
  have f3 := box_frozen R1.out 3
  have f4 := box_frozen R1.out 4
  have f5 := box_frozen R1.out 5
  have f6 := box_frozen R1.out 6
  go_wp2_with fail
  have rr := kept (set_block (set_block (set_block (set_block (set_block (set_block (set_block (R1.out) 0 (.int .i64 4)) 1 (.int .i64 c)) 2 (.int .i64 t)) 3 (.int .i64 e)) 4 (.int .i64 n)) 5 (.string ⟨#[]⟩)) 6 (.string ⟨#[]⟩)) (below_allocW _ (.cells #[.int .i64 4, .int .i64 c, .int .i64 t, .int .i64 e, .int .i64 n, .string ⟨#[]⟩, .string ⟨#[]⟩] 23))
  have q0 := box_cell rr 0 (v := .int .i64 4) rfl
  have q1 := box_cell rr 1 (v := .int .i64 c) rfl
  have q2 := box_cell rr 2 (v := .int .i64 t) rfl
  have q3 := box_cell rr 3 (v := .int .i64 e) rfl
  have q4 := box_cell rr 4 (v := .int .i64 n) rfl
  have q5 := box_cell rr 5 (v := .string ⟨#[]⟩) rfl
  have q6 := box_cell rr 6 (v := .string ⟨#[]⟩) rfl
  have bF := below_catW (Below.setCell (Below.setCell (Below.setCell (Below.setCell (Below.setCell (Below.setCell (Below.setCell (B1.out) (p := ⟨w.heap.size, 0, none⟩) (by simp) (.int .i64 4)) (p := ⟨w.heap.size, 1, none⟩) (by simp) (.int .i64 c)) (p := ⟨w.heap.size, 2, none⟩) (by simp) (.int .i64 t)) (p := ⟨w.heap.size, 3, none⟩) (by simp) (.int .i64 e)) (p := ⟨w.heap.size, 4, none⟩) (by simp) (.int .i64 n)) (p := ⟨w.heap.size, 5, none⟩) (by simp) (.string ⟨#[]⟩)) (p := ⟨w.heap.size, 6, none⟩) (by simp) (.string ⟨#[]⟩)) (below_allocW _ (.cells #[.int .i64 4, .int .i64 c, .int .i64 t, .int .i64 e, .int .i64 n, .string ⟨#[]⟩, .string ⟨#[]⟩] 23))
  refine bodyPost_ret (v := .agg #[.int .i64 4, .int .i64 c, .int .i64 t, .int .i64 e, .int .i64 n, .string ⟨#[]⟩, .string ⟨#[]⟩]) ?_ rfl ⟨rfl, bF⟩
  unfold results; rw [Tryd.results34]; simp [go_sem, q0, q1, q2, q3, q4, q5, q6]

theorem kindOf_5 (c t e n : Int) (name data : ByteArray) (w : World) :
    Calls Tryd.prog 31 #[.agg #[.int .i64 5, .int .i64 c, .int .i64 t, .int .i64 e, .int .i64 n, .string name, .string data]] w fun r w' => r = .returned (.iface 72 (.agg #[.int .i64 e, .int .i64 n])) ∧ Below w.heap.size w w' := by
  go_enter Tryd.func31, Tryd.ntmps31
  go_wp2
  go_ret
  exact ⟨rfl, below_allocW _ _⟩
theorem kindWord_5 (e : Int) (n : Int) (w : World) :
    Calls Tryd.prog 101 #[.agg #[.int .i64 e, .int .i64 n]] w fun r w' => r = .returned (.agg #[.int .i64 5, .int .i64 0, .int .i64 0, .int .i64 e, .int .i64 n, .string ⟨#[]⟩, .string ⟨#[]⟩]) ∧ Below w.heap.size w w' := by
  go_enter Tryd.func101, Tryd.ntmps101
  go_wp2
  exact bodyPost_ret (v := .agg #[.int .i64 5, .int .i64 0, .int .i64 0, .int .i64 e, .int .i64 n, .string ⟨#[]⟩, .string ⟨#[]⟩]) (by simp [results, Tryd.results101, go_sem]) rfl ⟨rfl, below_catW (below_allocW _ _) (below_allocW _ _)⟩
set_option maxHeartbeats 2000000 in
theorem kindFrom_5 (c t : Int) (e : Int) (n : Int) (w : World) :
    Calls Tryd.prog 34 #[.iface 72 (.agg #[.int .i64 e, .int .i64 n]), .int .i64 c, .int .i64 t] w fun r w' => r = .returned (.agg #[.int .i64 5, .int .i64 c, .int .i64 t, .int .i64 e, .int .i64 n, .string ⟨#[]⟩, .string ⟨#[]⟩]) ∧ Below w.heap.size w w' := by
  have hm : ∀ w : World, (method 234 72 (.agg #[.int .i64 e, .int .i64 n]) "loop.example/wellhead/impl.word").run Tryd.prog w = .ok (101, .agg #[.int .i64 e, .int .i64 n]) w := fun _ => by kernel_rfl
  go_enter Tryd.func34, Tryd.ntmps34
  go_wp2_with fail
  refine (kindWord_5 e n _).mono ?_
  rintro r w1 ⟨rfl, b1⟩
  have R1 := hid (kept (laid w #[.int .i64 0, .int .i64 0, .int .i64 0, .int .i64 0, .int .i64 0, .string ⟨#[]⟩, .string ⟨#[]⟩] 23) b1)
  have B1 := hid (below_catW (below_allocW _ _) b1)
  have hl : w.heap.size < w1.heap.size := lt_of_block R1.out
  clear b1 hm
  have r0 := box_cell R1.out 0 (v := .int .i64 0) rfl
  have r1 := box_cell R1.out 1 (v := .int .i64 0) rfl
  have r2 := box_cell R1.out 2 (v := .int .i64 0) rfl
  have r3 := box_cell R1.out 3 (v := .int .i64 0) rfl
  have r4 := box_cell R1.out 4 (v := .int .i64 0) rfl
  have r5 := box_cell R1.out 5 (v := .string ⟨#[]⟩) rfl
  have r6 := box_cell R1.out 6 (v := .string ⟨#[]⟩) rfl
  have f0 := box_frozen R1.out 0
  have f1 := box_frozen R1.out 1
  have f2 := box_frozen R1.out 2
  have f3 := box_frozen R1.out 3
  have f4 := box_frozen R1.out 4
  have f5 := box_frozen R1.out 5
  have f6 := box_frozen R1.out 6
  go_wp2_with fail
  have rr := kept (set_block (set_block (set_block (set_block (set_block (set_block (set_block (R1.out) 0 (.int .i64 5)) 1 (.int .i64 c)) 2 (.int .i64 t)) 3 (.int .i64 e)) 4 (.int .i64 n)) 5 (.string ⟨#[]⟩)) 6 (.string ⟨#[]⟩)) (below_allocW _ (.cells #[.int .i64 5, .int .i64 c, .int .i64 t, .int .i64 e, .int .i64 n, .string ⟨#[]⟩, .string ⟨#[]⟩] 23))
  have q0 := box_cell rr 0 (v := .int .i64 5) rfl
  have q1 := box_cell rr 1 (v := .int .i64 c) rfl
  have q2 := box_cell rr 2 (v := .int .i64 t) rfl
  have q3 := box_cell rr 3 (v := .int .i64 e) rfl
  have q4 := box_cell rr 4 (v := .int .i64 n) rfl
  have q5 := box_cell rr 5 (v := .string ⟨#[]⟩) rfl
  have q6 := box_cell rr 6 (v := .string ⟨#[]⟩) rfl
  have bF := below_catW (Below.setCell (Below.setCell (Below.setCell (Below.setCell (Below.setCell (Below.setCell (Below.setCell (B1.out) (p := ⟨w.heap.size, 0, none⟩) (by simp) (.int .i64 5)) (p := ⟨w.heap.size, 1, none⟩) (by simp) (.int .i64 c)) (p := ⟨w.heap.size, 2, none⟩) (by simp) (.int .i64 t)) (p := ⟨w.heap.size, 3, none⟩) (by simp) (.int .i64 e)) (p := ⟨w.heap.size, 4, none⟩) (by simp) (.int .i64 n)) (p := ⟨w.heap.size, 5, none⟩) (by simp) (.string ⟨#[]⟩)) (p := ⟨w.heap.size, 6, none⟩) (by simp) (.string ⟨#[]⟩)) (below_allocW _ (.cells #[.int .i64 5, .int .i64 c, .int .i64 t, .int .i64 e, .int .i64 n, .string ⟨#[]⟩, .string ⟨#[]⟩] 23))
  refine bodyPost_ret (v := .agg #[.int .i64 5, .int .i64 c, .int .i64 t, .int .i64 e, .int .i64 n, .string ⟨#[]⟩, .string ⟨#[]⟩]) ?_ rfl ⟨rfl, bF⟩
  unfold results; rw [Tryd.results34]; simp [go_sem, q0, q1, q2, q3, q4, q5, q6]

theorem kindOf_6 (c t e n : Int) (name data : ByteArray) (w : World) :
    Calls Tryd.prog 31 #[.agg #[.int .i64 6, .int .i64 c, .int .i64 t, .int .i64 e, .int .i64 n, .string name, .string data]] w fun r w' => r = .returned (.iface 74 (.agg #[.int .i64 e])) ∧ Below w.heap.size w w' := by
  go_enter Tryd.func31, Tryd.ntmps31
  go_wp2
  go_ret
  exact ⟨rfl, below_allocW _ _⟩
theorem kindWord_6 (e : Int) (w : World) :
    Calls Tryd.prog 102 #[.agg #[.int .i64 e]] w fun r w' => r = .returned (.agg #[.int .i64 6, .int .i64 0, .int .i64 0, .int .i64 e, .int .i64 0, .string ⟨#[]⟩, .string ⟨#[]⟩]) ∧ Below w.heap.size w w' := by
  go_enter Tryd.func102, Tryd.ntmps102
  go_wp2
  exact bodyPost_ret (v := .agg #[.int .i64 6, .int .i64 0, .int .i64 0, .int .i64 e, .int .i64 0, .string ⟨#[]⟩, .string ⟨#[]⟩]) (by simp [results, Tryd.results102, go_sem]) rfl ⟨rfl, below_catW (below_allocW _ _) (below_allocW _ _)⟩
set_option maxHeartbeats 2000000 in
theorem kindFrom_6 (c t : Int) (e : Int) (w : World) :
    Calls Tryd.prog 34 #[.iface 74 (.agg #[.int .i64 e]), .int .i64 c, .int .i64 t] w fun r w' => r = .returned (.agg #[.int .i64 6, .int .i64 c, .int .i64 t, .int .i64 e, .int .i64 0, .string ⟨#[]⟩, .string ⟨#[]⟩]) ∧ Below w.heap.size w w' := by
  have hm : ∀ w : World, (method 234 74 (.agg #[.int .i64 e]) "loop.example/wellhead/impl.word").run Tryd.prog w = .ok (102, .agg #[.int .i64 e]) w := fun _ => by kernel_rfl
  go_enter Tryd.func34, Tryd.ntmps34
  go_wp2_with fail
  refine (kindWord_6 e _).mono ?_
  rintro r w1 ⟨rfl, b1⟩
  have R1 := hid (kept (laid w #[.int .i64 0, .int .i64 0, .int .i64 0, .int .i64 0, .int .i64 0, .string ⟨#[]⟩, .string ⟨#[]⟩] 23) b1)
  have B1 := hid (below_catW (below_allocW _ _) b1)
  have hl : w.heap.size < w1.heap.size := lt_of_block R1.out
  clear b1 hm
  have r0 := box_cell R1.out 0 (v := .int .i64 0) rfl
  have r1 := box_cell R1.out 1 (v := .int .i64 0) rfl
  have r2 := box_cell R1.out 2 (v := .int .i64 0) rfl
  have r3 := box_cell R1.out 3 (v := .int .i64 0) rfl
  have r4 := box_cell R1.out 4 (v := .int .i64 0) rfl
  have r5 := box_cell R1.out 5 (v := .string ⟨#[]⟩) rfl
  have r6 := box_cell R1.out 6 (v := .string ⟨#[]⟩) rfl
  have f0 := box_frozen R1.out 0
  have f1 := box_frozen R1.out 1
  have f2 := box_frozen R1.out 2
  have f3 := box_frozen R1.out 3
  have f4 := box_frozen R1.out 4
  have f5 := box_frozen R1.out 5
  have f6 := box_frozen R1.out 6
  go_wp2_with fail
  have rr := kept (set_block (set_block (set_block (set_block (set_block (set_block (set_block (R1.out) 0 (.int .i64 6)) 1 (.int .i64 c)) 2 (.int .i64 t)) 3 (.int .i64 e)) 4 (.int .i64 0)) 5 (.string ⟨#[]⟩)) 6 (.string ⟨#[]⟩)) (below_allocW _ (.cells #[.int .i64 6, .int .i64 c, .int .i64 t, .int .i64 e, .int .i64 0, .string ⟨#[]⟩, .string ⟨#[]⟩] 23))
  have q0 := box_cell rr 0 (v := .int .i64 6) rfl
  have q1 := box_cell rr 1 (v := .int .i64 c) rfl
  have q2 := box_cell rr 2 (v := .int .i64 t) rfl
  have q3 := box_cell rr 3 (v := .int .i64 e) rfl
  have q4 := box_cell rr 4 (v := .int .i64 0) rfl
  have q5 := box_cell rr 5 (v := .string ⟨#[]⟩) rfl
  have q6 := box_cell rr 6 (v := .string ⟨#[]⟩) rfl
  have bF := below_catW (Below.setCell (Below.setCell (Below.setCell (Below.setCell (Below.setCell (Below.setCell (Below.setCell (B1.out) (p := ⟨w.heap.size, 0, none⟩) (by simp) (.int .i64 6)) (p := ⟨w.heap.size, 1, none⟩) (by simp) (.int .i64 c)) (p := ⟨w.heap.size, 2, none⟩) (by simp) (.int .i64 t)) (p := ⟨w.heap.size, 3, none⟩) (by simp) (.int .i64 e)) (p := ⟨w.heap.size, 4, none⟩) (by simp) (.int .i64 0)) (p := ⟨w.heap.size, 5, none⟩) (by simp) (.string ⟨#[]⟩)) (p := ⟨w.heap.size, 6, none⟩) (by simp) (.string ⟨#[]⟩)) (below_allocW _ (.cells #[.int .i64 6, .int .i64 c, .int .i64 t, .int .i64 e, .int .i64 0, .string ⟨#[]⟩, .string ⟨#[]⟩] 23))
  refine bodyPost_ret (v := .agg #[.int .i64 6, .int .i64 c, .int .i64 t, .int .i64 e, .int .i64 0, .string ⟨#[]⟩, .string ⟨#[]⟩]) ?_ rfl ⟨rfl, bF⟩
  unfold results; rw [Tryd.results34]; simp [go_sem, q0, q1, q2, q3, q4, q5, q6]
end Go.Proofs.YtpalcgelcnlhbaaDoor
