/- A client that wants nothing: made, the same, marked, held. -/
import Derived.Test.YtfciopjcbeccgaaCnA
namespace Go.Proofs.Ytfciopjcbeccgaa
open Go.ChangeShapes Go.WideShapes Go.ChangeAt Go.RowKit

abbrev cN (m : Int) : Array Value := #[.int .i64 m, .int .i64 0, .int .i64 0, .string ⟨#[]⟩, .int .i64 0, .int .i64 0, .int .i64 0, .slice none 0 0, .slice none 0 0, .int .i64 0, .int .i64 0, .slice none 0 0]
set_option maxHeartbeats 1000000 in
theorem eqClient_new (m : Int) (w : World) : Calls Try.prog 6 #[.agg #[.int .i64 m, .int .i64 0, .int .i64 0, .string ⟨#[]⟩, .int .i64 0, .int .i64 0, .int .i64 0, .slice none 0 0, .slice none 0 0, .int .i64 0, .int .i64 0, .slice none 0 0], .agg #[.int .i64 m, .int .i64 0, .int .i64 0, .string ⟨#[]⟩, .int .i64 0, .int .i64 0, .int .i64 0, .slice none 0 0, .slice none 0 0, .int .i64 0, .int .i64 0, .slice none 0 0]] w fun e w' => e = .returned (.bool true) ∧ Below w.heap.size w w' := by
  have X1 := hid (kept (laid w (cN m) 31) (u_b1 _ (.cells (cN m) 31)))
  have X2 := u_laid (w.alloc (.cells (cN m) 31)) (cN m) 31 (g := w.heap.size + 1) (by simp)
  have X2 := hid X2
  have B0 := hid (u_b2 w (.cells (cN m) 31) (.cells (cN m) 31))
  go_enter Try.func6, Try.ntmps6
  go_wp2_with fail
  refine (eqGetting_none _).mono ?_
  rintro e w1 ⟨rfl, b1⟩
  have B1 := hid (u_cat B0.out b1)
  clear b1
  go_wp2_with fail
  go_ret
  exact ⟨rfl, B1.out⟩
set_option maxHeartbeats 1000000 in
theorem markClient_new (m k : Int) (w : World) : Calls Try.prog 7 #[.agg #[.int .i64 m, .int .i64 0, .int .i64 0, .string ⟨#[]⟩, .int .i64 0, .int .i64 0, .int .i64 0, .slice none 0 0, .slice none 0 0, .int .i64 0, .int .i64 0, .slice none 0 0], .int .i64 k] w fun e w' => e = .returned (.int .i64 k) ∧ Below w.heap.size w w' := by
  have B0 := hid (u_b1 w (.cells (cN m) 31))
  go_enter Try.func7, Try.ntmps7
  go_wp2_with fail
  refine (markGetting_none k _).mono ?_
  rintro e w1 ⟨rfl, b1⟩
  have B1 := hid (u_cat B0.out b1)
  clear b1
  go_wp2_with fail
  go_ret
  exact ⟨rfl, B1.out⟩
set_option maxHeartbeats 1000000 in
theorem heldClient_new (m k : Int) (w : World) (hk : 0 ≤ k) : Calls Try.prog 8 #[.agg #[.int .i64 m, .int .i64 0, .int .i64 0, .string ⟨#[]⟩, .int .i64 0, .int .i64 0, .int .i64 0, .slice none 0 0, .slice none 0 0, .int .i64 0, .int .i64 0, .slice none 0 0], .int .i64 k] w fun e w' => e = .returned (.int .i64 k) ∧ Below w.heap.size w w' := by
  have B0 := hid (u_b1 w (.cells (cN m) 31))
  go_enter Try.func8, Try.ntmps8
  go_wp2_with fail
  refine (heldGetting_none k _ hk).mono ?_
  rintro e w1 ⟨rfl, b1⟩
  have B1 := hid (u_cat B0.out b1)
  clear b1
  go_wp2_with fail
  go_ret
  exact ⟨rfl, B1.out⟩

def cnI (id : Int) : Int := if 0 ≤ id ∧ id ≤ 3 then id else 0
theorem specClientNew (id : Int) (w : World) : Calls Try.prog 4 #[.int .i64 id] w fun e w' => e = .returned (.agg #[.int .i64 (cnI id), .int .i64 0, .int .i64 0, .string ⟨#[]⟩, .int .i64 0, .int .i64 0, .int .i64 0, .slice none 0 0, .slice none 0 0, .int .i64 0, .int .i64 0, .slice none 0 0]) ∧ Below w.heap.size w w' := by
  by_cases h : 0 ≤ id ∧ id ≤ 3
  · rw [show cnI id = id from if_pos h]
    go_enter Try.func4, Try.ntmps4
    go_wp2_with (go_at_call 9; refine (l1In_yes _ _ _ _ (by omega)).mono ?_; rintro e w' ⟨rfl, rfl⟩)
    exact bodyPost_ret (v := .agg #[.int .i64 id, .int .i64 0, .int .i64 0, .string ⟨#[]⟩, .int .i64 0, .int .i64 0, .int .i64 0, .slice none 0 0, .slice none 0 0, .int .i64 0, .int .i64 0, .slice none 0 0]) (by simp [results, Try.results4, go_sem]) rfl ⟨rfl, u_b1 _ _⟩
  · rw [show cnI id = 0 from if_neg h]
    have h2 : id < 0 ∨ 3 < id := by omega
    clear h
    go_enter Try.func4, Try.ntmps4
    go_wp2_with (go_at_call 9; refine (l1In_no _ _ _ _ (by omega)).mono ?_; rintro e w' ⟨rfl, rfl⟩)
    exact bodyPost_ret (v := .agg #[.int .i64 0, .int .i64 0, .int .i64 0, .string ⟨#[]⟩, .int .i64 0, .int .i64 0, .int .i64 0, .slice none 0 0, .slice none 0 0, .int .i64 0, .int .i64 0, .slice none 0 0]) (by simp [results, Try.results4, go_sem]) rfl ⟨rfl, u_b1 _ _⟩
theorem clientIs_any (n : Int) (w : World) : Calls Try.prog 10 #[.int .i64 n] w fun e w' => e = .returned (.bool (decide (0 ≤ n ∧ n ≤ 3))) ∧ w' = w := by
  by_cases h1 : 0 ≤ n
  · by_cases h2 : n ≤ 3
    · rw [decide_eq_true (show 0 ≤ n ∧ n ≤ 3 from ⟨h1, h2⟩)]
      have e1 : decide (0 ≤ n) = true := decide_eq_true h1
      have e2 : decide (n < 4) = true := decide_eq_true (by omega)
      go_enter Try.func10, Try.ntmps10
      go_wp2
      go_ret
      exact ⟨rfl, rfl⟩
    · rw [decide_eq_false (show ¬ (0 ≤ n ∧ n ≤ 3) from fun h => h2 h.2)]
      have e1 : decide (0 ≤ n) = true := decide_eq_true h1
      have e2 : decide (n < 4) = false := decide_eq_false (by omega)
      go_enter Try.func10, Try.ntmps10
      go_wp2
      go_ret
      exact ⟨rfl, rfl⟩
  · rw [decide_eq_false (show ¬ (0 ≤ n ∧ n ≤ 3) from fun h => h1 h.1)]
    have e1 : decide (0 ≤ n) = false := decide_eq_false h1
    go_enter Try.func10, Try.ntmps10
    go_wp2
    go_ret
    exact ⟨rfl, rfl⟩
theorem implClientNew (id : Int) (w : World) : Calls Try.prog 5 #[.int .i64 id] w fun e w' => e = .returned (.agg #[.int .i64 (cnI id), .int .i64 0, .int .i64 0, .string ⟨#[]⟩, .int .i64 0, .int .i64 0, .int .i64 0, .slice none 0 0, .slice none 0 0, .int .i64 0, .int .i64 0, .slice none 0 0]) ∧ Below w.heap.size w w' := by
  by_cases h : 0 ≤ id ∧ id ≤ 3
  · rw [show cnI id = id from if_pos h]
    have HD := hid (decide_eq_true h)
    clear h
    go_enter Try.func5, Try.ntmps5
    go_wp2_with (go_at_call 10; refine (clientIs_any _ _).mono ?_; rintro e w' ⟨rfl, rfl⟩; rw [HD.out])
    exact bodyPost_ret (v := .agg #[.int .i64 id, .int .i64 0, .int .i64 0, .string ⟨#[]⟩, .int .i64 0, .int .i64 0, .int .i64 0, .slice none 0 0, .slice none 0 0, .int .i64 0, .int .i64 0, .slice none 0 0]) (by simp [results, Try.results5, go_sem]) rfl ⟨rfl, u_b1 _ _⟩
  · rw [show cnI id = 0 from if_neg h]
    have HD := hid (decide_eq_false h)
    clear h
    go_enter Try.func5, Try.ntmps5
    go_wp2_with (go_at_call 10; refine (clientIs_any _ _).mono ?_; rintro e w' ⟨rfl, rfl⟩; rw [HD.out])
    exact bodyPost_ret (v := .agg #[.int .i64 0, .int .i64 0, .int .i64 0, .string ⟨#[]⟩, .int .i64 0, .int .i64 0, .int .i64 0, .slice none 0 0, .slice none 0 0, .int .i64 0, .int .i64 0, .slice none 0 0]) (by simp [results, Try.results5, go_sem]) rfl ⟨rfl, u_b1 _ _⟩

set_option maxHeartbeats 4000000 in
set_option maxRecDepth 100000 in
theorem walk_FnExactClientNew (a0 : Int) (w : World) (_w0 : (Lit.int .i64 a0).wf = true) :
    Calls Try.prog 3 #[.int .i64 a0] w fun e w' => e = .returned (.bool true) ∧ Below w.heap.size w w' := by
  have SP := hid (fun w => specClientNew a0 w)
  have IP := hid (fun w => implClientNew a0 w)
  obtain ⟨m, hm⟩ : ∃ m, m = cnI a0 := ⟨_, rfl⟩
  rw [← hm] at SP IP
  clear hm _w0
  go_enter Try.func3, Try.ntmps3
  have B := hid (Below.refl w.heap.size w)
  go_wp2_with fail
  refine (SP.out _).mono ?_
  rintro e w1 ⟨rfl, b1⟩
  have B := hid (u_cat B.out b1)
  clear b1
  have b := u_b1 w1 (.cells (cN m) 31)
  have P := hid (laid w1 (cN m) 31)
  have B := hid (u_cat B.out b)
  clear b
  go_wp2_with fail
  refine (IP.out _).mono ?_
  rintro e w2 ⟨rfl, b2⟩
  have P := hid (kept P.out b2)
  have B := hid (u_cat B.out b2)
  clear b2
  have b := u_b1 w2 (.cells (cN m) 31)
  have P := hid (kept P.out b)
  have Q := hid (laid w2 (cN m) 31)
  have B := hid (u_cat B.out b)
  clear b
  have p0 := box_cell P.out 0 (v := .int .i64 m) rfl
  have p1 := box_cell P.out 1 (v := .int .i64 0) rfl
  have p2 := box_cell P.out 2 (v := .int .i64 0) rfl
  have p3 := box_cell P.out 3 (v := .string ⟨#[]⟩) rfl
  have p4 := box_cell P.out 4 (v := .int .i64 0) rfl
  have p5 := box_cell P.out 5 (v := .int .i64 0) rfl
  have p6 := box_cell P.out 6 (v := .int .i64 0) rfl
  have p7 := box_cell P.out 7 (v := .slice none 0 0) rfl
  have p8 := box_cell P.out 8 (v := .slice none 0 0) rfl
  have p9 := box_cell P.out 9 (v := .int .i64 0) rfl
  have p10 := box_cell P.out 10 (v := .int .i64 0) rfl
  have p11 := box_cell P.out 11 (v := .slice none 0 0) rfl
  have q0 := box_cell Q.out 0 (v := .int .i64 m) rfl
  have q1 := box_cell Q.out 1 (v := .int .i64 0) rfl
  have q2 := box_cell Q.out 2 (v := .int .i64 0) rfl
  have q3 := box_cell Q.out 3 (v := .string ⟨#[]⟩) rfl
  have q4 := box_cell Q.out 4 (v := .int .i64 0) rfl
  have q5 := box_cell Q.out 5 (v := .int .i64 0) rfl
  have q6 := box_cell Q.out 6 (v := .int .i64 0) rfl
  have q7 := box_cell Q.out 7 (v := .slice none 0 0) rfl
  have q8 := box_cell Q.out 8 (v := .slice none 0 0) rfl
  have q9 := box_cell Q.out 9 (v := .int .i64 0) rfl
  have q10 := box_cell Q.out 10 (v := .int .i64 0) rfl
  have q11 := box_cell Q.out 11 (v := .slice none 0 0) rfl
  go_wp2_with fail
  refine (eqClient_new m _).mono ?_
  rintro e w3 ⟨rfl, b3⟩
  have P := hid (kept P.out b3)
  have Q := hid (kept Q.out b3)
  have B := hid (u_cat B.out b3)
  clear p0 p1 p2 p3 p4 p5 p6 p7 p8 p9 p10 p11 q0 q1 q2 q3 q4 q5 q6 q7 q8 q9 q10 q11
  clear b3
  have q0 := box_cell Q.out 0 (v := .int .i64 m) rfl
  have q1 := box_cell Q.out 1 (v := .int .i64 0) rfl
  have q2 := box_cell Q.out 2 (v := .int .i64 0) rfl
  have q3 := box_cell Q.out 3 (v := .string ⟨#[]⟩) rfl
  have q4 := box_cell Q.out 4 (v := .int .i64 0) rfl
  have q5 := box_cell Q.out 5 (v := .int .i64 0) rfl
  have q6 := box_cell Q.out 6 (v := .int .i64 0) rfl
  have q7 := box_cell Q.out 7 (v := .slice none 0 0) rfl
  have q8 := box_cell Q.out 8 (v := .slice none 0 0) rfl
  have q9 := box_cell Q.out 9 (v := .int .i64 0) rfl
  have q10 := box_cell Q.out 10 (v := .int .i64 0) rfl
  have q11 := box_cell Q.out 11 (v := .slice none 0 0) rfl
  go_wp2_with fail
  refine (markClient_new m 1 _).mono ?_
  rintro e w4 ⟨rfl, b4⟩
  have P := hid (kept P.out b4)
  have Q := hid (kept Q.out b4)
  have B := hid (u_cat B.out b4)
  clear q0 q1 q2 q3 q4 q5 q6 q7 q8 q9 q10 q11
  clear b4
  have q0 := box_cell Q.out 0 (v := .int .i64 m) rfl
  have q1 := box_cell Q.out 1 (v := .int .i64 0) rfl
  have q2 := box_cell Q.out 2 (v := .int .i64 0) rfl
  have q3 := box_cell Q.out 3 (v := .string ⟨#[]⟩) rfl
  have q4 := box_cell Q.out 4 (v := .int .i64 0) rfl
  have q5 := box_cell Q.out 5 (v := .int .i64 0) rfl
  have q6 := box_cell Q.out 6 (v := .int .i64 0) rfl
  have q7 := box_cell Q.out 7 (v := .slice none 0 0) rfl
  have q8 := box_cell Q.out 8 (v := .slice none 0 0) rfl
  have q9 := box_cell Q.out 9 (v := .int .i64 0) rfl
  have q10 := box_cell Q.out 10 (v := .int .i64 0) rfl
  have q11 := box_cell Q.out 11 (v := .slice none 0 0) rfl
  go_wp2_with fail
  refine (heldClient_new m 1 _ (by omega)).mono ?_
  rintro e w5 ⟨rfl, b5⟩
  have P := hid (kept P.out b5)
  have Q := hid (kept Q.out b5)
  have B := hid (u_cat B.out b5)
  clear q0 q1 q2 q3 q4 q5 q6 q7 q8 q9 q10 q11
  clear b5
  go_wp2_with fail
  refine (IP.out _).mono ?_
  rintro e w6 ⟨rfl, b6⟩
  have P := hid (kept P.out b6)
  have Q := hid (kept Q.out b6)
  have B := hid (u_cat B.out b6)
  clear b6
  have b := u_b1 w6 (.cells (cN m) 31)
  have P := hid (kept P.out b)
  have Q := hid (kept Q.out b)
  have R := hid (laid w6 (cN m) 31)
  have B := hid (u_cat B.out b)
  clear b
  have p0 := box_cell P.out 0 (v := .int .i64 m) rfl
  have p1 := box_cell P.out 1 (v := .int .i64 0) rfl
  have p2 := box_cell P.out 2 (v := .int .i64 0) rfl
  have p3 := box_cell P.out 3 (v := .string ⟨#[]⟩) rfl
  have p4 := box_cell P.out 4 (v := .int .i64 0) rfl
  have p5 := box_cell P.out 5 (v := .int .i64 0) rfl
  have p6 := box_cell P.out 6 (v := .int .i64 0) rfl
  have p7 := box_cell P.out 7 (v := .slice none 0 0) rfl
  have p8 := box_cell P.out 8 (v := .slice none 0 0) rfl
  have p9 := box_cell P.out 9 (v := .int .i64 0) rfl
  have p10 := box_cell P.out 10 (v := .int .i64 0) rfl
  have p11 := box_cell P.out 11 (v := .slice none 0 0) rfl
  have r0 := box_cell R.out 0 (v := .int .i64 m) rfl
  have r1 := box_cell R.out 1 (v := .int .i64 0) rfl
  have r2 := box_cell R.out 2 (v := .int .i64 0) rfl
  have r3 := box_cell R.out 3 (v := .string ⟨#[]⟩) rfl
  have r4 := box_cell R.out 4 (v := .int .i64 0) rfl
  have r5 := box_cell R.out 5 (v := .int .i64 0) rfl
  have r6 := box_cell R.out 6 (v := .int .i64 0) rfl
  have r7 := box_cell R.out 7 (v := .slice none 0 0) rfl
  have r8 := box_cell R.out 8 (v := .slice none 0 0) rfl
  have r9 := box_cell R.out 9 (v := .int .i64 0) rfl
  have r10 := box_cell R.out 10 (v := .int .i64 0) rfl
  have r11 := box_cell R.out 11 (v := .slice none 0 0) rfl
  go_wp2_with fail
  refine (eqClient_new m _).mono ?_
  rintro e w7 ⟨rfl, b7⟩
  have P := hid (kept P.out b7)
  have Q := hid (kept Q.out b7)
  have R := hid (kept R.out b7)
  have B := hid (u_cat B.out b7)
  clear p0 p1 p2 p3 p4 p5 p6 p7 p8 p9 p10 p11 r0 r1 r2 r3 r4 r5 r6 r7 r8 r9 r10 r11
  clear b7
  have q0 := box_cell Q.out 0 (v := .int .i64 m) rfl
  have q1 := box_cell Q.out 1 (v := .int .i64 0) rfl
  have q2 := box_cell Q.out 2 (v := .int .i64 0) rfl
  have q3 := box_cell Q.out 3 (v := .string ⟨#[]⟩) rfl
  have q4 := box_cell Q.out 4 (v := .int .i64 0) rfl
  have q5 := box_cell Q.out 5 (v := .int .i64 0) rfl
  have q6 := box_cell Q.out 6 (v := .int .i64 0) rfl
  have q7 := box_cell Q.out 7 (v := .slice none 0 0) rfl
  have q8 := box_cell Q.out 8 (v := .slice none 0 0) rfl
  have q9 := box_cell Q.out 9 (v := .int .i64 0) rfl
  have q10 := box_cell Q.out 10 (v := .int .i64 0) rfl
  have q11 := box_cell Q.out 11 (v := .slice none 0 0) rfl
  go_wp2_with fail
  refine (heldClient_new m 1 _ (by omega)).mono ?_
  rintro e w8 ⟨rfl, b8⟩
  have P := hid (kept P.out b8)
  have Q := hid (kept Q.out b8)
  have R := hid (kept R.out b8)
  have B := hid (u_cat B.out b8)
  clear q0 q1 q2 q3 q4 q5 q6 q7 q8 q9 q10 q11
  clear b8
  go_wp2_with fail
  go_ret
  exact ⟨rfl, B.out⟩
end Go.Proofs.Ytfciopjcbeccgaa
