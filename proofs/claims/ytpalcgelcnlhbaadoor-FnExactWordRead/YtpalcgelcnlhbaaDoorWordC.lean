/- Words: kinds 1 to 3. -/
import Derived.Test.YtpalcgelcnlhbaaDoorWordB
namespace Go.Proofs.YtpalcgelcnlhbaaDoor
open Go.ChangeShapes Go.WideShapes Go.ChangeAt Go.RowKit Go.Sort


theorem kindOf_1 (c t e n : Int) (name data : ByteArray) (w : World) :
    Calls Tryd.prog 31 #[.agg #[.int .i64 1, .int .i64 c, .int .i64 t, .int .i64 e, .int .i64 n, .string name, .string data]] w fun r w' => r = .returned (.iface 65 (.agg #[.int .i64 e, .string name])) ∧ Below w.heap.size w w' := by
  go_enter Tryd.func31, Tryd.ntmps31
  go_wp2
  go_ret
  exact ⟨rfl, below_allocW _ _⟩
theorem kindWord_1 (e : Int) (name : ByteArray) (w : World) :
    Calls Tryd.prog 97 #[.agg #[.int .i64 e, .string name]] w fun r w' => r = .returned (.agg #[.int .i64 1, .int .i64 0, .int .i64 0, .int .i64 e, .int .i64 0, .string name, .string ⟨#[]⟩]) ∧ Below w.heap.size w w' := by
  go_enter Tryd.func97, Tryd.ntmps97
  go_wp2
  exact bodyPost_ret (v := .agg #[.int .i64 1, .int .i64 0, .int .i64 0, .int .i64 e, .int .i64 0, .string name, .string ⟨#[]⟩]) (by simp [results, Tryd.results97, go_sem]) rfl ⟨rfl, below_catW (below_allocW _ _) (below_allocW _ _)⟩
set_option maxHeartbeats 2000000 in
theorem kindFrom_1 (c t : Int) (e : Int) (name : ByteArray) (w : World) :
    Calls Tryd.prog 34 #[.iface 65 (.agg #[.int .i64 e, .string name]), .int .i64 c, .int .i64 t] w fun r w' => r = .returned (.agg #[.int .i64 1, .int .i64 c, .int .i64 t, .int .i64 e, .int .i64 0, .string name, .string ⟨#[]⟩]) ∧ Below w.heap.size w w' := by
  have hm : ∀ w : World, (method 234 65 (.agg #[.int .i64 e, .string name]) "loop.example/wellhead/impl.word").run Tryd.prog w = .ok (97, .agg #[.int .i64 e, .string name]) w := fun _ => by kernel_rfl
  go_enter Tryd.func34, Tryd.ntmps34
  go_wp2_with fail
  refine (kindWord_1 e name _).mono ?_
  rintro r w1 ⟨rfl, b1⟩
  have R1 := hid (kept (laid w #[.int .i64 0, .int .i64 0, .int .i64 0, .int .i64 0, .int .i64 0, .string ⟨#[]⟩, .string ⟨#[]⟩] 23) b1)
  have B1 := hid (below_catW (below_allocW _ _) b1)
  have hl : w.heap.size < w1.heap.size := lt_of_block R1.out
  clear b1 hm
  have r0 := box_cell R1.out 0 (v := .int .i64 0) rfl
  have r1 := box_cell R1.out 1 (v := .int .i64 0) rfl
  have r2 := box_cell R1.out 2 (v := .int .i64 0) rfl
  have r3 := box_cell R1.out 3 (v := .int .i64 0) rfl
  have r4 := box_cell R1.out 4 (v := .int .i64 0) rfl
  have r5 := box_cell R1.out 5 (v := .string ⟨#[]⟩) rfl
  have r6 := box_cell R1.out 6 (v := .string ⟨#[]⟩) rfl
  have f0 := box_frozen R1.out 0
  have f1 := box_frozen R1.out 1
  have f2 := box_frozen R1.out 2
  have f3 := box_frozen R1.out 3
  have f4 := box_frozen R1.out 4
  have f5 := box_frozen R1.out 5
  have f6 := box_frozen R1.out 6
  go_wp2_with fail
  have rr := kept (set_block (set_block (set_block (set_block (set_block (set_block (set_block (R1.out) 0 (.int .i64 1)) 1 (.int .i64 c)) 2 (.int .i64 t)) 3 (.int .i64 e)) 4 (.int .i64 0)) 5 (.string name)) 6 (.string ⟨#[]⟩)) (below_allocW _ (.cells #[.int .i64 1, .int .i64 c, .int .i64 t, .int .i64 e, .int .i64 0, .string name, .string ⟨#[]⟩] 23))
  have q0 := box_cell rr 0 (v := .int .i64 1) rfl
  have q1 := box_cell rr 1 (v := .int .i64 c) rfl
  have q2 := box_cell rr 2 (v := .int .i64 t) rfl
  have q3 := box_cell rr 3 (v := .int .i64 e) rfl
  have q4 := box_cell rr 4 (v := .int .i64 0) rfl
  have q5 := box_cell rr 5 (v := .string name) rfl
  have q6 := box_cell rr 6 (v := .string ⟨#[]⟩) rfl
  have bF := below_catW (Below.setCell (Below.setCell (Below.setCell (Below.setCell (Below.setCell (Below.setCell (Below.setCell (B1.out) (p := ⟨w.heap.size, 0, none⟩) (by simp) (.int .i64 1)) (p := ⟨w.heap.size, 1, none⟩) (by simp) (.int .i64 c)) (p := ⟨w.heap.size, 2, none⟩) (by simp) (.int .i64 t)) (p := ⟨w.heap.size, 3, none⟩) (by simp) (.int .i64 e)) (p := ⟨w.heap.size, 4, none⟩) (by simp) (.int .i64 0)) (p := ⟨w.heap.size, 5, none⟩) (by simp) (.string name)) (p := ⟨w.heap.size, 6, none⟩) (by simp) (.string ⟨#[]⟩)) (below_allocW _ (.cells #[.int .i64 1, .int .i64 c, .int .i64 t, .int .i64 e, .int .i64 0, .string name, .string ⟨#[]⟩] 23))
  refine bodyPost_ret (v := .agg #[.int .i64 1, .int .i64 c, .int .i64 t, .int .i64 e, .int .i64 0, .string name, .string ⟨#[]⟩]) ?_ rfl ⟨rfl, bF⟩
  unfold results; rw [Tryd.results34]; simp [go_sem, q0, q1, q2, q3, q4, q5, q6]

theorem kindOf_2 (c t e n : Int) (name data : ByteArray) (w : World) :
    Calls Tryd.prog 31 #[.agg #[.int .i64 2, .int .i64 c, .int .i64 t, .int .i64 e, .int .i64 n, .string name, .string data]] w fun r w' => r = .returned (.iface 67 (.agg #[.int .i64 e, .string data])) ∧ Below w.heap.size w w' := by
  go_enter Tryd.func31, Tryd.ntmps31
  go_wp2
  go_ret
  exact ⟨rfl, below_allocW _ _⟩
theorem kindWord_2 (e : Int) (data : ByteArray) (w : World) :
    Calls Tryd.prog 98 #[.agg #[.int .i64 e, .string data]] w fun r w' => r = .returned (.agg #[.int .i64 2, .int .i64 0, .int .i64 0, .int .i64 e, .int .i64 0, .string ⟨#[]⟩, .string data]) ∧ Below w.heap.size w w' := by
  go_enter Tryd.func98, Tryd.ntmps98
  go_wp2
  exact bodyPost_ret (v := .agg #[.int .i64 2, .int .i64 0, .int .i64 0, .int .i64 e, .int .i64 0, .string ⟨#[]⟩, .string data]) (by simp [results, Tryd.results98, go_sem]) rfl ⟨rfl, below_catW (below_allocW _ _) (below_allocW _ _)⟩
set_option maxHeartbeats 2000000 in
theorem kindFrom_2 (c t : Int) (e : Int) (data : ByteArray) (w : World) :
    Calls Tryd.prog 34 #[.iface 67 (.agg #[.int .i64 e, .string data]), .int .i64 c, .int .i64 t] w fun r w' => r = .returned (.agg #[.int .i64 2, .int .i64 c, .int .i64 t, .int .i64 e, .int .i64 0, .string ⟨#[]⟩, .string data]) ∧ Below w.heap.size w w' := by
  have hm : ∀ w : World, (method 234 67 (.agg #[.int .i64 e, .string data]) "loop.example/wellhead/impl.word").run Tryd.prog w = .ok (98, .agg #[.int .i64 e, .string data]) w := fun _ => by kernel_rfl
  go_enter Tryd.func34, Tryd.ntmps34
  go_wp2_with fail
  refine (kindWord_2 e data _).mono ?_
  rintro r w1 ⟨rfl, b1⟩
  have R1 := hid (kept (laid w #[.int .i64 0, .int .i64 0, .int .i64 0, .int .i64 0, .int .i64 0, .string ⟨#[]⟩, .string ⟨#[]⟩] 23) b1)
  have B1 := hid (below_catW (below_allocW _ _) b1)
  have hl : w.heap.size < w1.heap.size := lt_of_block R1.out
  clear b1 hm
  have r0 := box_cell R1.out 0 (v := .int .i64 0) rfl
  have r1 := box_cell R1.out 1 (v := .int .i64 0) rfl
  have r2 := box_cell R1.out 2 (v := .int .i64 0) rfl
  have r3 := box_cell R1.out 3 (v := .int .i64 0) rfl
  have r4 := box_cell R1.out 4 (v := .int .i64 0) rfl
  have r5 := box_cell R1.out 5 (v := .string ⟨#[]⟩) rfl
  have r6 := box_cell R1.out 6 (v := .string ⟨#[]⟩) rfl
  have f0 := box_frozen R1.out 0
  have f1 := box_frozen R1.out 1
  have f2 := box_frozen R1.out 2
  have f3 := box_frozen R1.out 3
  have f4 := box_frozen R1.out 4
  have f5 := box_frozen R1.out 5
  have f6 := box_frozen R1.out 6
  go_wp2_with fail
  have rr := kept (set_block (set_block (set_block (set_block (set_block (set_block (set_block (R1.out) 0 (.int .i64 2)) 1 (.int .i64 c)) 2 (.int .i64 t)) 3 (.int .i64 e)) 4 (.int .i64 0)) 5 (.string ⟨#[]⟩)) 6 (.string data)) (below_allocW _ (.cells #[.int .i64 2, .int .i64 c, .int .i64 t, .int .i64 e, .int .i64 0, .string ⟨#[]⟩, .string data] 23))
  have q0 := box_cell rr 0 (v := .int .i64 2) rfl
  have q1 := box_cell rr 1 (v := .int .i64 c) rfl
  have q2 := box_cell rr 2 (v := .int .i64 t) rfl
  have q3 := box_cell rr 3 (v := .int .i64 e) rfl
  have q4 := box_cell rr 4 (v := .int .i64 0) rfl
  have q5 := box_cell rr 5 (v := .string ⟨#[]⟩) rfl
  have q6 := box_cell rr 6 (v := .string data) rfl
  have bF := below_catW (Below.setCell (Below.setCell (Below.setCell (Below.setCell (Below.setCell (Below.setCell (Below.setCell (B1.out) (p := ⟨w.heap.size, 0, none⟩) (by simp) (.int .i64 2)) (p := ⟨w.heap.size, 1, none⟩) (by simp) (.int .i64 c)) (p := ⟨w.heap.size, 2, none⟩) (by simp) (.int .i64 t)) (p := ⟨w.heap.size, 3, none⟩) (by simp) (.int .i64 e)) (p := ⟨w.heap.size, 4, none⟩) (by simp) (.int .i64 0)) (p := ⟨w.heap.size, 5, none⟩) (by simp) (.string ⟨#[]⟩)) (p := ⟨w.heap.size, 6, none⟩) (by simp) (.string data)) (below_allocW _ (.cells #[.int .i64 2, .int .i64 c, .int .i64 t, .int .i64 e, .int .i64 0, .string ⟨#[]⟩, .string data] 23))
  refine bodyPost_ret (v := .agg #[.int .i64 2, .int .i64 c, .int .i64 t, .int .i64 e, .int .i64 0, .string ⟨#[]⟩, .string data]) ?_ rfl ⟨rfl, bF⟩
  unfold results; rw [Tryd.results34]; simp [go_sem, q0, q1, q2, q3, q4, q5, q6]

theorem kindOf_3 (c t e n : Int) (name data : ByteArray) (w : World) :
    Calls Tryd.prog 31 #[.agg #[.int .i64 3, .int .i64 c, .int .i64 t, .int .i64 e, .int .i64 n, .string name, .string data]] w fun r w' => r = .returned (.iface 69 (.agg #[.int .i64 e, .int .i64 n, .string data])) ∧ Below w.heap.size w w' := by
  go_enter Tryd.func31, Tryd.ntmps31
  go_wp2
  go_ret
  exact ⟨rfl, below_allocW _ _⟩
theorem kindWord_3 (e : Int) (n : Int) (data : ByteArray) (w : World) :
    Calls Tryd.prog 99 #[.agg #[.int .i64 e, .int .i64 n, .string data]] w fun r w' => r = .returned (.agg #[.int .i64 3, .int .i64 0, .int .i64 0, .int .i64 e, .int .i64 n, .string ⟨#[]⟩, .string data]) ∧ Below w.heap.size w w' := by
  go_enter Tryd.func99, Tryd.ntmps99
  go_wp2
  exact bodyPost_ret (v := .agg #[.int .i64 3, .int .i64 0, .int .i64 0, .int .i64 e, .int .i64 n, .string ⟨#[]⟩, .string data]) (by simp [results, Tryd.results99, go_sem]) rfl ⟨rfl, below_catW (below_allocW _ _) (below_allocW _ _)⟩
set_option maxHeartbeats 2000000 in
theorem kindFrom_3 (c t : Int) (e : Int) (n : Int) (data : ByteArray) (w : World) :
    Calls Tryd.prog 34 #[.iface 69 (.agg #[.int .i64 e, .int .i64 n, .string data]), .int .i64 c, .int .i64 t] w fun r w' => r = .returned (.agg #[.int .i64 3, .int .i64 c, .int .i64 t, .int .i64 e, .int .i64 n, .string ⟨#[]⟩, .string data]) ∧ Below w.heap.size w w' := by
  have hm : ∀ w : World, (method 234 69 (.agg #[.int .i64 e, .int .i64 n, .string data]) "loop.example/wellhead/impl.word").run Tryd.prog w = .ok (99, .agg #[.int .i64 e, .int .i64 n, .string data]) w := fun _ => by kernel_rfl
  go_enter Tryd.func34, Tryd.ntmps34
  go_wp2_with fail
  refine (kindWord_3 e n data _).mono ?_
  rintro r w1 ⟨rfl, b1⟩
  have R1 := hid (kept (laid w #[.int .i64 0, .int .i64 0, .int .i64 0, .int .i64 0, .int .i64 0, .string ⟨#[]⟩, .string ⟨#[]⟩] 23) b1)
  have B1 := hid (below_catW (below_allocW _ _) b1)
  have hl : w.heap.size < w1.heap.size := lt_of_block R1.out
  clear b1 hm
  have r0 := box_cell R1.out 0 (v := .int .i64 0) rfl
  have r1 := box_cell R1.out 1 (v := .int .i64 0) rfl
  have r2 := box_cell R1.out 2 (v := .int .i64 0) rfl
  have r3 := box_cell R1.out 3 (v := .int .i64 0) rfl
  have r4 := box_cell R1.out 4 (v := .int .i64 0) rfl
  have r5 := box_cell R1.out 5 (v := .string ⟨#[]⟩) rfl
  have r6 := box_cell R1.out 6 (v := .string ⟨#[]⟩) rfl
  have f0 := box_frozen R1.out 0
  have f1 := box_frozen R1.out 1
  have f2 := box_frozen R1.out 2
  have f3 := box_frozen R1.out 3
  have f4 := box_frozen R1.out 4
  have f5 := box_frozen R1.out 5
  have f6 := box_frozen R1.out 6
  go_wp2_with fail
  have rr := kept (set_block (set_block (set_block (set_block (set_block (set_block (set_block (R1.out) 0 (.int .i64 3)) 1 (.int .i64 c)) 2 (.int .i64 t)) 3 (.int .i64 e)) 4 (.int .i64 n)) 5 (.string ⟨#[]⟩)) 6 (.string data)) (below_allocW _ (.cells #[.int .i64 3, .int .i64 c, .int .i64 t, .int .i64 e, .int .i64 n, .string ⟨#[]⟩, .string data] 23))
  have q0 := box_cell rr 0 (v := .int .i64 3) rfl
  have q1 := box_cell rr 1 (v := .int .i64 c) rfl
  have q2 := box_cell rr 2 (v := .int .i64 t) rfl
  have q3 := box_cell rr 3 (v := .int .i64 e) rfl
  have q4 := box_cell rr 4 (v := .int .i64 n) rfl
  have q5 := box_cell rr 5 (v := .string ⟨#[]⟩) rfl
  have q6 := box_cell rr 6 (v := .string data) rfl
  have bF := below_catW (Below.setCell (Below.setCell (Below.setCell (Below.setCell (Below.setCell (Below.setCell (Below.setCell (B1.out) (p := ⟨w.heap.size, 0, none⟩) (by simp) (.int .i64 3)) (p := ⟨w.heap.size, 1, none⟩) (by simp) (.int .i64 c)) (p := ⟨w.heap.size, 2, none⟩) (by simp) (.int .i64 t)) (p := ⟨w.heap.size, 3, none⟩) (by simp) (.int .i64 e)) (p := ⟨w.heap.size, 4, none⟩) (by simp) (.int .i64 n)) (p := ⟨w.heap.size, 5, none⟩) (by simp) (.string ⟨#[]⟩)) (p := ⟨w.heap.size, 6, none⟩) (by simp) (.string data)) (below_allocW _ (.cells #[.int .i64 3, .int .i64 c, .int .i64 t, .int .i64 e, .int .i64 n, .string ⟨#[]⟩, .string data] 23))
  refine bodyPost_ret (v := .agg #[.int .i64 3, .int .i64 c, .int .i64 t, .int .i64 e, .int .i64 n, .string ⟨#[]⟩, .string data]) ?_ rfl ⟨rfl, bF⟩
  unfold results; rw [Tryd.results34]; simp [go_sem, q0, q1, q2, q3, q4, q5, q6]
end Go.Proofs.YtpalcgelcnlhbaaDoor
