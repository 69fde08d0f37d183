/- Words: what is ok by the program, kinds 4 to 6. -/
import Derived.Test.YtpalcgelcnlhbaaDoorWordD
import Derived.Test.YtpalcgelcnlhbaaDoorWordK
import Derived.Deep.RegionWith
import Derived.Test.YtpalcgelcnlhbaaDoorWordE
namespace Go.Proofs.YtpalcgelcnlhbaaDoor
open Go.ChangeShapes Go.WideShapes Go.ChangeAt Go.RowKit Go.Sort

set_option maxHeartbeats 4000000 in
theorem implWordOk_4 (c t e n : Int) (name data : ByteArray) (w : World) (_hs : name.size ≤ maxLen) :
    Calls Tryd.prog 21 #[.agg #[.int .i64 4, .int .i64 c, .int .i64 t, .int .i64 e, .int .i64 n, .string name, .string data]] w fun r w' => r = .returned (.bool (cntB c && (cntB t && (decide (1 ≤ t) && ((edB e && cntB n) && (n == n && (name.toList == (⟨#[]⟩ : ByteArray).toList && data.toList == (⟨#[]⟩ : ByteArray).toList))))))) ∧ Below w.heap.size w w' := by
  cases g0 : cntB c with
  | false =>
    have G0 := hid g0
    clear g0
    have hw2 := guard_word
    go_enter Tryd.func21, Tryd.ntmps21
    go_wp2_with fail
    refine (kindOf_4 c t e n name data _).mono ?_
    rintro r w1 ⟨rfl, b1⟩
    have X1 := hid (kept (laid w #[.int .i64 4, .int .i64 c, .int .i64 t, .int .i64 e, .int .i64 n, .string name, .string data] 23) b1)
    have B1 := hid (below_catW (below_allocW _ _) b1)
    have P0 := cell_regrown (box_cell X1.out 0 (v := .int .i64 4) rfl)
    have P1 := cell_regrown (box_cell X1.out 1 (v := .int .i64 c) rfl)
    have P2 := cell_regrown (box_cell X1.out 2 (v := .int .i64 t) rfl)
    have P3 := cell_regrown (box_cell X1.out 3 (v := .int .i64 e) rfl)
    have P4 := cell_regrown (box_cell X1.out 4 (v := .int .i64 n) rfl)
    have P5 := cell_regrown (box_cell X1.out 5 (v := .string name) rfl)
    have P6 := cell_regrown (box_cell X1.out 6 (v := .string data) rfl)
    have kc := hid (rgs (w := w1) (fun w' => cntB_any c w'))
    rw [G0.out] at kc
    clear b1
    go_wp2_with fail
    refine wp_region_quiet_below (by kernel_rfl) (by kernel_rfl) ?_
    repeat (first | go_big_quiet_step ((go_at_call_of 32 (Value.int .i64 c); exact kc.out _ _)) | quiet_step ((go_at_call_of 32 (Value.int .i64 c); exact kc.out _ _)))
    refine wpQuiet_nil ?_
    intro _ hw'
    obtain ⟨⟨dq, osq⟩, hw''⟩ := hw'
    subst hw''
    have hbq := below_regrown w1 dq osq
    go_wp2
    go_ret
    exact ⟨rfl, below_catW B1.out hbq⟩
  | true =>
    have G0 := hid g0
    clear g0
    cases g1 : cntB t with
    | false =>
      have G1 := hid g1
      clear g1
      have hw2 := guard_word
      go_enter Tryd.func21, Tryd.ntmps21
      go_wp2_with fail
      refine (kindOf_4 c t e n name data _).mono ?_
      rintro r w1 ⟨rfl, b1⟩
      have X1 := hid (kept (laid w #[.int .i64 4, .int .i64 c, .int .i64 t, .int .i64 e, .int .i64 n, .string name, .string data] 23) b1)
      have B1 := hid (below_catW (below_allocW _ _) b1)
      have P0 := cell_regrown (box_cell X1.out 0 (v := .int .i64 4) rfl)
      have P1 := cell_regrown (box_cell X1.out 1 (v := .int .i64 c) rfl)
      have P2 := cell_regrown (box_cell X1.out 2 (v := .int .i64 t) rfl)
      have P3 := cell_regrown (box_cell X1.out 3 (v := .int .i64 e) rfl)
      have P4 := cell_regrown (box_cell X1.out 4 (v := .int .i64 n) rfl)
      have P5 := cell_regrown (box_cell X1.out 5 (v := .string name) rfl)
      have P6 := cell_regrown (box_cell X1.out 6 (v := .string data) rfl)
      have kc := hid (rgs (w := w1) (fun w' => cntB_any c w'))
      rw [G0.out] at kc
      have kt := hid (rgs (w := w1) (fun w' => cntB_any t w'))
      rw [G1.out] at kt
      clear b1
      go_wp2_with fail
      refine wp_region_quiet_below (by kernel_rfl) (by kernel_rfl) ?_
      repeat (first | go_big_quiet_step (first | (go_at_call_of 32 (Value.int .i64 c); exact kc.out _ _) | (go_at_call_of 32 (Value.int .i64 t); exact kt.out _ _)) | quiet_step (first | (go_at_call_of 32 (Value.int .i64 c); exact kc.out _ _) | (go_at_call_of 32 (Value.int .i64 t); exact kt.out _ _)))
      refine wpQuiet_nil ?_
      intro _ hw'
      obtain ⟨⟨dq, osq⟩, hw''⟩ := hw'
      subst hw''
      have hbq := below_regrown w1 dq osq
      go_wp2
      go_ret
      exact ⟨rfl, below_catW B1.out hbq⟩
    | true =>
      have G1 := hid g1
      clear g1
      cases g2 : decide (1 ≤ t) with
      | false =>
        have G2 := hid g2
        have g2' := g2
        have hw2 := guard_word
        go_enter Tryd.func21, Tryd.ntmps21
        go_wp2_with fail
        refine (kindOf_4 c t e n name data _).mono ?_
        rintro r w1 ⟨rfl, b1⟩
        have X1 := hid (kept (laid w #[.int .i64 4, .int .i64 c, .int .i64 t, .int .i64 e, .int .i64 n, .string name, .string data] 23) b1)
        have B1 := hid (below_catW (below_allocW _ _) b1)
        have P0 := cell_regrown (box_cell X1.out 0 (v := .int .i64 4) rfl)
        have P1 := cell_regrown (box_cell X1.out 1 (v := .int .i64 c) rfl)
        have P2 := cell_regrown (box_cell X1.out 2 (v := .int .i64 t) rfl)
        have P3 := cell_regrown (box_cell X1.out 3 (v := .int .i64 e) rfl)
        have P4 := cell_regrown (box_cell X1.out 4 (v := .int .i64 n) rfl)
        have P5 := cell_regrown (box_cell X1.out 5 (v := .string name) rfl)
        have P6 := cell_regrown (box_cell X1.out 6 (v := .string data) rfl)
        have kc := hid (rgs (w := w1) (fun w' => cntB_any c w'))
        rw [G0.out] at kc
        have kt := hid (rgs (w := w1) (fun w' => cntB_any t w'))
        rw [G1.out] at kt
        clear b1
        go_wp2_with fail
        refine wp_region_quiet_below (by kernel_rfl) (by kernel_rfl) ?_
        repeat (first | go_big_quiet_step (first | (go_at_call_of 32 (Value.int .i64 c); exact kc.out _ _) | (go_at_call_of 32 (Value.int .i64 t); exact kt.out _ _)) | quiet_step (first | (go_at_call_of 32 (Value.int .i64 c); exact kc.out _ _) | (go_at_call_of 32 (Value.int .i64 t); exact kt.out _ _)))
        refine wpQuiet_nil ?_
        intro _ hw'
        obtain ⟨⟨dq, osq⟩, hw''⟩ := hw'
        subst hw''
        have hbq := below_regrown w1 dq osq
        go_wp2
        go_ret
        exact ⟨rfl, below_catW B1.out hbq⟩
      | true =>
        have G2 := hid g2
        have g2' : 1 ≤ t := of_decide_eq_true g2
        clear g2
        cases g3 : (edB e && cntB n) with
        | false =>
          have G3 := hid g3
          clear g3
          have hw2 := guard_word
          go_enter Tryd.func21, Tryd.ntmps21
          go_wp2_with fail
          refine (kindOf_4 c t e n name data _).mono ?_
          rintro r w1 ⟨rfl, b1⟩
          have X1 := hid (kept (laid w #[.int .i64 4, .int .i64 c, .int .i64 t, .int .i64 e, .int .i64 n, .string name, .string data] 23) b1)
          have B1 := hid (below_catW (below_allocW _ _) b1)
          have P0 := cell_regrown (box_cell X1.out 0 (v := .int .i64 4) rfl)
          have P1 := cell_regrown (box_cell X1.out 1 (v := .int .i64 c) rfl)
          have P2 := cell_regrown (box_cell X1.out 2 (v := .int .i64 t) rfl)
          have P3 := cell_regrown (box_cell X1.out 3 (v := .int .i64 e) rfl)
          have P4 := cell_regrown (box_cell X1.out 4 (v := .int .i64 n) rfl)
          have P5 := cell_regrown (box_cell X1.out 5 (v := .string name) rfl)
          have P6 := cell_regrown (box_cell X1.out 6 (v := .string data) rfl)
          have kc := hid (rgs (w := w1) (fun w' => cntB_any c w'))
          rw [G0.out] at kc
          have kt := hid (rgs (w := w1) (fun w' => cntB_any t w'))
          rw [G1.out] at kt
          have kk := hid (rg (w := w1) (fun w' _ => kindOk_4 e n w'))
          rw [G3.out] at kk
          clear b1
          go_wp2_with fail
          refine wp_region_quiet_below (by kernel_rfl) (by kernel_rfl) ?_
          repeat (first | go_big_quiet_step (first | (go_at_call_of 32 (Value.int .i64 c); exact kc.out _ _) | (go_at_call_of 32 (Value.int .i64 t); exact kt.out _ _) | (go_at_call 33; exact kk.out _ _)) | quiet_step (first | (go_at_call_of 32 (Value.int .i64 c); exact kc.out _ _) | (go_at_call_of 32 (Value.int .i64 t); exact kt.out _ _) | (go_at_call 33; exact kk.out _ _)))
          refine wpQuiet_nil ?_
          intro _ hw'
          obtain ⟨⟨dq, osq⟩, hw''⟩ := hw'
          subst hw''
          have hbq := below_regrown w1 dq osq
          go_wp2
          go_ret
          exact ⟨rfl, below_catW B1.out hbq⟩
        | true =>
          have G3 := hid g3
          clear g3
          cases g4 : (n == n && (name.toList == (⟨#[]⟩ : ByteArray).toList && data.toList == (⟨#[]⟩ : ByteArray).toList)) with
          | false =>
            have G4 := hid g4
            clear g4
            have hq : ∀ w : World, (binOp .eql 23 (.agg #[.int .i64 4, .int .i64 c, .int .i64 t, .int .i64 e, .int .i64 n, .string name, .string data]) (.agg #[.int .i64 4, .int .i64 c, .int .i64 t, .int .i64 e, .int .i64 n, .string ⟨#[]⟩, .string ⟨#[]⟩])).run Tryd.prog w = .ok (.bool false) w := fun w => by rw [run_eq_word]; exact congrArg (fun b => Result.ok (Value.bool b) w) G4.out
            have hw2 := guard_word
            go_enter Tryd.func21, Tryd.ntmps21
            go_wp2_with fail
            refine (kindOf_4 c t e n name data _).mono ?_
            rintro r w1 ⟨rfl, b1⟩
            have X1 := hid (kept (laid w #[.int .i64 4, .int .i64 c, .int .i64 t, .int .i64 e, .int .i64 n, .string name, .string data] 23) b1)
            have B1 := hid (below_catW (below_allocW _ _) b1)
            have P0 := cell_regrown (box_cell X1.out 0 (v := .int .i64 4) rfl)
            have P1 := cell_regrown (box_cell X1.out 1 (v := .int .i64 c) rfl)
            have P2 := cell_regrown (box_cell X1.out 2 (v := .int .i64 t) rfl)
            have P3 := cell_regrown (box_cell X1.out 3 (v := .int .i64 e) rfl)
            have P4 := cell_regrown (box_cell X1.out 4 (v := .int .i64 n) rfl)
            have P5 := cell_regrown (box_cell X1.out 5 (v := .string name) rfl)
            have P6 := cell_regrown (box_cell X1.out 6 (v := .string data) rfl)
            have kc := hid (rgs (w := w1) (fun w' => cntB_any c w'))
            rw [G0.out] at kc
            have kt := hid (rgs (w := w1) (fun w' => cntB_any t w'))
            rw [G1.out] at kt
            have kk := hid (rg (w := w1) (fun w' _ => kindOk_4 e n w'))
            rw [G3.out] at kk
            have kf := hid (rg (w := w1) (fun w' _ => kindFrom_4 c t e n w'))
            clear b1
            go_wp2_with fail
            refine wp_region_quiet_below (by kernel_rfl) (by kernel_rfl) ?_
            repeat (first | go_big_quiet_step (first | (go_at_call_of 32 (Value.int .i64 c); exact kc.out _ _) | (go_at_call_of 32 (Value.int .i64 t); exact kt.out _ _) | (go_at_call 33; exact kk.out _ _) | (go_at_call 34; exact kf.out _ _)) | quiet_step (first | (go_at_call_of 32 (Value.int .i64 c); exact kc.out _ _) | (go_at_call_of 32 (Value.int .i64 t); exact kt.out _ _) | (go_at_call 33; exact kk.out _ _) | (go_at_call 34; exact kf.out _ _)))
            refine wpQuiet_nil ?_
            intro _ hw'
            obtain ⟨⟨dq, osq⟩, hw''⟩ := hw'
            subst hw''
            have hbq := below_regrown w1 dq osq
            go_wp2
            go_ret
            exact ⟨rfl, below_catW B1.out hbq⟩
          | true =>
            have G4 := hid g4
            clear g4
            have hq : ∀ w : World, (binOp .eql 23 (.agg #[.int .i64 4, .int .i64 c, .int .i64 t, .int .i64 e, .int .i64 n, .string name, .string data]) (.agg #[.int .i64 4, .int .i64 c, .int .i64 t, .int .i64 e, .int .i64 n, .string ⟨#[]⟩, .string ⟨#[]⟩])).run Tryd.prog w = .ok (.bool true) w := fun w => by rw [run_eq_word]; exact congrArg (fun b => Result.ok (Value.bool b) w) G4.out
            have hw2 := guard_word
            go_enter Tryd.func21, Tryd.ntmps21
            go_wp2_with fail
            refine (kindOf_4 c t e n name data _).mono ?_
            rintro r w1 ⟨rfl, b1⟩
            have X1 := hid (kept (laid w #[.int .i64 4, .int .i64 c, .int .i64 t, .int .i64 e, .int .i64 n, .string name, .string data] 23) b1)
            have B1 := hid (below_catW (below_allocW _ _) b1)
            have P0 := cell_regrown (box_cell X1.out 0 (v := .int .i64 4) rfl)
            have P1 := cell_regrown (box_cell X1.out 1 (v := .int .i64 c) rfl)
            have P2 := cell_regrown (box_cell X1.out 2 (v := .int .i64 t) rfl)
            have P3 := cell_regrown (box_cell X1.out 3 (v := .int .i64 e) rfl)
            have P4 := cell_regrown (box_cell X1.out 4 (v := .int .i64 n) rfl)
            have P5 := cell_regrown (box_cell X1.out 5 (v := .string name) rfl)
            have P6 := cell_regrown (box_cell X1.out 6 (v := .string data) rfl)
            have kc := hid (rgs (w := w1) (fun w' => cntB_any c w'))
            rw [G0.out] at kc
            have kt := hid (rgs (w := w1) (fun w' => cntB_any t w'))
            rw [G1.out] at kt
            have kk := hid (rg (w := w1) (fun w' _ => kindOk_4 e n w'))
            rw [G3.out] at kk
            have kf := hid (rg (w := w1) (fun w' _ => kindFrom_4 c t e n w'))
            clear b1
            go_wp2_with fail
            refine wp_region_quiet_below (by kernel_rfl) (by kernel_rfl) ?_
            repeat (first | go_big_quiet_step (first | (go_at_call_of 32 (Value.int .i64 c); exact kc.out _ _) | (go_at_call_of 32 (Value.int .i64 t); exact kt.out _ _) | (go_at_call 33; exact kk.out _ _) | (go_at_call 34; exact kf.out _ _)) | quiet_step (first | (go_at_call_of 32 (Value.int .i64 c); exact kc.out _ _) | (go_at_call_of 32 (Value.int .i64 t); exact kt.out _ _) | (go_at_call 33; exact kk.out _ _) | (go_at_call 34; exact kf.out _ _)))
            refine wpQuiet_nil ?_
            intro _ hw'
            obtain ⟨⟨dq, osq⟩, hw''⟩ := hw'
            subst hw''
            have hbq := below_regrown w1 dq osq
            go_wp2
            go_ret
            exact ⟨rfl, below_catW B1.out hbq⟩

set_option maxHeartbeats 4000000 in
theorem implWordOk_5 (c t e n : Int) (name data : ByteArray) (w : World) (_hs : name.size ≤ maxLen) :
    Calls Tryd.prog 21 #[.agg #[.int .i64 5, .int .i64 c, .int .i64 t, .int .i64 e, .int .i64 n, .string name, .string data]] w fun r w' => r = .returned (.bool (cntB c && (cntB t && (decide (1 ≤ t) && ((edB e && cntB n) && (n == n && (name.toList == (⟨#[]⟩ : ByteArray).toList && data.toList == (⟨#[]⟩ : ByteArray).toList))))))) ∧ Below w.heap.size w w' := by
  cases g0 : cntB c with
  | false =>
    have G0 := hid g0
    clear g0
    have hw2 := guard_word
    go_enter Tryd.func21, Tryd.ntmps21
    go_wp2_with fail
    refine (kindOf_5 c t e n name data _).mono ?_
    rintro r w1 ⟨rfl, b1⟩
    have X1 := hid (kept (laid w #[.int .i64 5, .int .i64 c, .int .i64 t, .int .i64 e, .int .i64 n, .string name, .string data] 23) b1)
    have B1 := hid (below_catW (below_allocW _ _) b1)
    have P0 := cell_regrown (box_cell X1.out 0 (v := .int .i64 5) rfl)
    have P1 := cell_regrown (box_cell X1.out 1 (v := .int .i64 c) rfl)
    have P2 := cell_regrown (box_cell X1.out 2 (v := .int .i64 t) rfl)
    have P3 := cell_regrown (box_cell X1.out 3 (v := .int .i64 e) rfl)
    have P4 := cell_regrown (box_cell X1.out 4 (v := .int .i64 n) rfl)
    have P5 := cell_regrown (box_cell X1.out 5 (v := .string name) rfl)
    have P6 := cell_regrown (box_cell X1.out 6 (v := .string data) rfl)
    have kc := hid (rgs (w := w1) (fun w' => cntB_any c w'))
    rw [G0.out] at kc
    clear b1
    go_wp2_with fail
    refine wp_region_quiet_below (by kernel_rfl) (by kernel_rfl) ?_
    repeat (first | go_big_quiet_step ((go_at_call_of 32 (Value.int .i64 c); exact kc.out _ _)) | quiet_step ((go_at_call_of 32 (Value.int .i64 c); exact kc.out _ _)))
    refine wpQuiet_nil ?_
    intro _ hw'
    obtain ⟨⟨dq, osq⟩, hw''⟩ := hw'
    subst hw''
    have hbq := below_regrown w1 dq osq
    go_wp2
    go_ret
    exact ⟨rfl, below_catW B1.out hbq⟩
  | true =>
    have G0 := hid g0
    clear g0
    cases g1 : cntB t with
    | false =>
      have G1 := hid g1
      clear g1
      have hw2 := guard_word
      go_enter Tryd.func21, Tryd.ntmps21
      go_wp2_with fail
      refine (kindOf_5 c t e n name data _).mono ?_
      rintro r w1 ⟨rfl, b1⟩
      have X1 := hid (kept (laid w #[.int .i64 5, .int .i64 c, .int .i64 t, .int .i64 e, .int .i64 n, .string name, .string data] 23) b1)
      have B1 := hid (below_catW (below_allocW _ _) b1)
      have P0 := cell_regrown (box_cell X1.out 0 (v := .int .i64 5) rfl)
      have P1 := cell_regrown (box_cell X1.out 1 (v := .int .i64 c) rfl)
      have P2 := cell_regrown (box_cell X1.out 2 (v := .int .i64 t) rfl)
      have P3 := cell_regrown (box_cell X1.out 3 (v := .int .i64 e) rfl)
      have P4 := cell_regrown (box_cell X1.out 4 (v := .int .i64 n) rfl)
      have P5 := cell_regrown (box_cell X1.out 5 (v := .string name) rfl)
      have P6 := cell_regrown (box_cell X1.out 6 (v := .string data) rfl)
      have kc := hid (rgs (w := w1) (fun w' => cntB_any c w'))
      rw [G0.out] at kc
      have kt := hid (rgs (w := w1) (fun w' => cntB_any t w'))
      rw [G1.out] at kt
      clear b1
      go_wp2_with fail
      refine wp_region_quiet_below (by kernel_rfl) (by kernel_rfl) ?_
      repeat (first | go_big_quiet_step (first | (go_at_call_of 32 (Value.int .i64 c); exact kc.out _ _) | (go_at_call_of 32 (Value.int .i64 t); exact kt.out _ _)) | quiet_step (first | (go_at_call_of 32 (Value.int .i64 c); exact kc.out _ _) | (go_at_call_of 32 (Value.int .i64 t); exact kt.out _ _)))
      refine wpQuiet_nil ?_
      intro _ hw'
      obtain ⟨⟨dq, osq⟩, hw''⟩ := hw'
      subst hw''
      have hbq := below_regrown w1 dq osq
      go_wp2
      go_ret
      exact ⟨rfl, below_catW B1.out hbq⟩
    | true =>
      have G1 := hid g1
      clear g1
      cases g2 : decide (1 ≤ t) with
      | false =>
        have G2 := hid g2
        have g2' := g2
        have hw2 := guard_word
        go_enter Tryd.func21, Tryd.ntmps21
        go_wp2_with fail
        refine (kindOf_5 c t e n name data _).mono ?_
        rintro r w1 ⟨rfl, b1⟩
        have X1 := hid (kept (laid w #[.int .i64 5, .int .i64 c, .int .i64 t, .int .i64 e, .int .i64 n, .string name, .string data] 23) b1)
        have B1 := hid (below_catW (below_allocW _ _) b1)
        have P0 := cell_regrown (box_cell X1.out 0 (v := .int .i64 5) rfl)
        have P1 := cell_regrown (box_cell X1.out 1 (v := .int .i64 c) rfl)
        have P2 := cell_regrown (box_cell X1.out 2 (v := .int .i64 t) rfl)
        have P3 := cell_regrown (box_cell X1.out 3 (v := .int .i64 e) rfl)
        have P4 := cell_regrown (box_cell X1.out 4 (v := .int .i64 n) rfl)
        have P5 := cell_regrown (box_cell X1.out 5 (v := .string name) rfl)
        have P6 := cell_regrown (box_cell X1.out 6 (v := .string data) rfl)
        have kc := hid (rgs (w := w1) (fun w' => cntB_any c w'))
        rw [G0.out] at kc
        have kt := hid (rgs (w := w1) (fun w' => cntB_any t w'))
        rw [G1.out] at kt
        clear b1
        go_wp2_with fail
        refine wp_region_quiet_below (by kernel_rfl) (by kernel_rfl) ?_
        repeat (first | go_big_quiet_step (first | (go_at_call_of 32 (Value.int .i64 c); exact kc.out _ _) | (go_at_call_of 32 (Value.int .i64 t); exact kt.out _ _)) | quiet_step (first | (go_at_call_of 32 (Value.int .i64 c); exact kc.out _ _) | (go_at_call_of 32 (Value.int .i64 t); exact kt.out _ _)))
        refine wpQuiet_nil ?_
        intro _ hw'
        obtain ⟨⟨dq, osq⟩, hw''⟩ := hw'
        subst hw''
        have hbq := below_regrown w1 dq osq
        go_wp2
        go_ret
        exact ⟨rfl, below_catW B1.out hbq⟩
      | true =>
        have G2 := hid g2
        have g2' : 1 ≤ t := of_decide_eq_true g2
        clear g2
        cases g3 : (edB e && cntB n) with
        | false =>
          have G3 := hid g3
          clear g3
          have hw2 := guard_word
          go_enter Tryd.func21, Tryd.ntmps21
          go_wp2_with fail
          refine (kindOf_5 c t e n name data _).mono ?_
          rintro r w1 ⟨rfl, b1⟩
          have X1 := hid (kept (laid w #[.int .i64 5, .int .i64 c, .int .i64 t, .int .i64 e, .int .i64 n, .string name, .string data] 23) b1)
          have B1 := hid (below_catW (below_allocW _ _) b1)
          have P0 := cell_regrown (box_cell X1.out 0 (v := .int .i64 5) rfl)
          have P1 := cell_regrown (box_cell X1.out 1 (v := .int .i64 c) rfl)
          have P2 := cell_regrown (box_cell X1.out 2 (v := .int .i64 t) rfl)
          have P3 := cell_regrown (box_cell X1.out 3 (v := .int .i64 e) rfl)
          have P4 := cell_regrown (box_cell X1.out 4 (v := .int .i64 n) rfl)
          have P5 := cell_regrown (box_cell X1.out 5 (v := .string name) rfl)
          have P6 := cell_regrown (box_cell X1.out 6 (v := .string data) rfl)
          have kc := hid (rgs (w := w1) (fun w' => cntB_any c w'))
          rw [G0.out] at kc
          have kt := hid (rgs (w := w1) (fun w' => cntB_any t w'))
          rw [G1.out] at kt
          have kk := hid (rg (w := w1) (fun w' _ => kindOk_5 e n w'))
          rw [G3.out] at kk
          clear b1
          go_wp2_with fail
          refine wp_region_quiet_below (by kernel_rfl) (by kernel_rfl) ?_
          repeat (first | go_big_quiet_step (first | (go_at_call_of 32 (Value.int .i64 c); exact kc.out _ _) | (go_at_call_of 32 (Value.int .i64 t); exact kt.out _ _) | (go_at_call 33; exact kk.out _ _)) | quiet_step (first | (go_at_call_of 32 (Value.int .i64 c); exact kc.out _ _) | (go_at_call_of 32 (Value.int .i64 t); exact kt.out _ _) | (go_at_call 33; exact kk.out _ _)))
          refine wpQuiet_nil ?_
          intro _ hw'
          obtain ⟨⟨dq, osq⟩, hw''⟩ := hw'
          subst hw''
          have hbq := below_regrown w1 dq osq
          go_wp2
          go_ret
          exact ⟨rfl, below_catW B1.out hbq⟩
        | true =>
          have G3 := hid g3
          clear g3
          cases g4 : (n == n && (name.toList == (⟨#[]⟩ : ByteArray).toList && data.toList == (⟨#[]⟩ : ByteArray).toList)) with
          | false =>
            have G4 := hid g4
            clear g4
            have hq : ∀ w : World, (binOp .eql 23 (.agg #[.int .i64 5, .int .i64 c, .int .i64 t, .int .i64 e, .int .i64 n, .string name, .string data]) (.agg #[.int .i64 5, .int .i64 c, .int .i64 t, .int .i64 e, .int .i64 n, .string ⟨#[]⟩, .string ⟨#[]⟩])).run Tryd.prog w = .ok (.bool false) w := fun w => by rw [run_eq_word]; exact congrArg (fun b => Result.ok (Value.bool b) w) G4.out
            have hw2 := guard_word
            go_enter Tryd.func21, Tryd.ntmps21
            go_wp2_with fail
            refine (kindOf_5 c t e n name data _).mono ?_
            rintro r w1 ⟨rfl, b1⟩
            have X1 := hid (kept (laid w #[.int .i64 5, .int .i64 c, .int .i64 t, .int .i64 e, .int .i64 n, .string name, .string data] 23) b1)
            have B1 := hid (below_catW (below_allocW _ _) b1)
            have P0 := cell_regrown (box_cell X1.out 0 (v := .int .i64 5) rfl)
            have P1 := cell_regrown (box_cell X1.out 1 (v := .int .i64 c) rfl)
            have P2 := cell_regrown (box_cell X1.out 2 (v := .int .i64 t) rfl)
            have P3 := cell_regrown (box_cell X1.out 3 (v := .int .i64 e) rfl)
            have P4 := cell_regrown (box_cell X1.out 4 (v := .int .i64 n) rfl)
            have P5 := cell_regrown (box_cell X1.out 5 (v := .string name) rfl)
            have P6 := cell_regrown (box_cell X1.out 6 (v := .string data) rfl)
            have kc := hid (rgs (w := w1) (fun w' => cntB_any c w'))
            rw [G0.out] at kc
            have kt := hid (rgs (w := w1) (fun w' => cntB_any t w'))
            rw [G1.out] at kt
            have kk := hid (rg (w := w1) (fun w' _ => kindOk_5 e n w'))
            rw [G3.out] at kk
            have kf := hid (rg (w := w1) (fun w' _ => kindFrom_5 c t e n w'))
            clear b1
            go_wp2_with fail
            refine wp_region_quiet_below (by kernel_rfl) (by kernel_rfl) ?_
            repeat (first | go_big_quiet_step (first | (go_at_call_of 32 (Value.int .i64 c); exact kc.out _ _) | (go_at_call_of 32 (Value.int .i64 t); exact kt.out _ _) | (go_at_call 33; exact kk.out _ _) | (go_at_call 34; exact kf.out _ _)) | quiet_step (first | (go_at_call_of 32 (Value.int .i64 c); exact kc.out _ _) | (go_at_call_of 32 (Value.int .i64 t); exact kt.out _ _) | (go_at_call 33; exact kk.out _ _) | (go_at_call 34; exact kf.out _ _)))
            refine wpQuiet_nil ?_
            intro _ hw'
            obtain ⟨⟨dq, osq⟩, hw''⟩ := hw'
            subst hw''
            have hbq := below_regrown w1 dq osq
            go_wp2
            go_ret
            exact ⟨rfl, below_catW B1.out hbq⟩
          | true =>
            have G4 := hid g4
            clear g4
            have hq : ∀ w : World, (binOp .eql 23 (.agg #[.int .i64 5, .int .i64 c, .int .i64 t, .int .i64 e, .int .i64 n, .string name, .string data]) (.agg #[.int .i64 5, .int .i64 c, .int .i64 t, .int .i64 e, .int .i64 n, .string ⟨#[]⟩, .string ⟨#[]⟩])).run Tryd.prog w = .ok (.bool true) w := fun w => by rw [run_eq_word]; exact congrArg (fun b => Result.ok (Value.bool b) w) G4.out
            have hw2 := guard_word
            go_enter Tryd.func21, Tryd.ntmps21
            go_wp2_with fail
            refine (kindOf_5 c t e n name data _).mono ?_
            rintro r w1 ⟨rfl, b1⟩
            have X1 := hid (kept (laid w #[.int .i64 5, .int .i64 c, .int .i64 t, .int .i64 e, .int .i64 n, .string name, .string data] 23) b1)
            have B1 := hid (below_catW (below_allocW _ _) b1)
            have P0 := cell_regrown (box_cell X1.out 0 (v := .int .i64 5) rfl)
            have P1 := cell_regrown (box_cell X1.out 1 (v := .int .i64 c) rfl)
            have P2 := cell_regrown (box_cell X1.out 2 (v := .int .i64 t) rfl)
            have P3 := cell_regrown (box_cell X1.out 3 (v := .int .i64 e) rfl)
            have P4 := cell_regrown (box_cell X1.out 4 (v := .int .i64 n) rfl)
            have P5 := cell_regrown (box_cell X1.out 5 (v := .string name) rfl)
            have P6 := cell_regrown (box_cell X1.out 6 (v := .string data) rfl)
            have kc := hid (rgs (w := w1) (fun w' => cntB_any c w'))
            rw [G0.out] at kc
            have kt := hid (rgs (w := w1) (fun w' => cntB_any t w'))
            rw [G1.out] at kt
            have kk := hid (rg (w := w1) (fun w' _ => kindOk_5 e n w'))
            rw [G3.out] at kk
            have kf := hid (rg (w := w1) (fun w' _ => kindFrom_5 c t e n w'))
            clear b1
            go_wp2_with fail
            refine wp_region_quiet_below (by kernel_rfl) (by kernel_rfl) ?_
            repeat (first | go_big_quiet_step (first | (go_at_call_of 32 (Value.int .i64 c); exact kc.out _ _) | (go_at_call_of 32 (Value.int .i64 t); exact kt.out _ _) | (go_at_call 33; exact kk.out _ _) | (go_at_call 34; exact kf.out _ _)) | quiet_step (first | (go_at_call_of 32 (Value.int .i64 c); exact kc.out _ _) | (go_at_call_of 32 (Value.int .i64 t); exact kt.out _ _) | (go_at_call 33; exact kk.out _ _) | (go_at_call 34; exact kf.out _ _)))
            refine wpQuiet_nil ?_
            intro _ hw'
            obtain ⟨⟨dq, osq⟩, hw''⟩ := hw'
            subst hw''
            have hbq := below_regrown w1 dq osq
            go_wp2
            go_ret
            exact ⟨rfl, below_catW B1.out hbq⟩

set_option maxHeartbeats 4000000 in
theorem implWordOk_6 (c t e n : Int) (name data : ByteArray) (w : World) (_hs : name.size ≤ maxLen) :
    Calls Tryd.prog 21 #[.agg #[.int .i64 6, .int .i64 c, .int .i64 t, .int .i64 e, .int .i64 n, .string name, .string data]] w fun r w' => r = .returned (.bool (cntB c && (cntB t && (decide (1 ≤ t) && ((cntB e) && (n == 0 && (name.toList == (⟨#[]⟩ : ByteArray).toList && data.toList == (⟨#[]⟩ : ByteArray).toList))))))) ∧ Below w.heap.size w w' := by
  cases g0 : cntB c with
  | false =>
    have G0 := hid g0
    clear g0
    have hw2 := guard_word
    go_enter Tryd.func21, Tryd.ntmps21
    go_wp2_with fail
    refine (kindOf_6 c t e n name data _).mono ?_
    rintro r w1 ⟨rfl, b1⟩
    have X1 := hid (kept (laid w #[.int .i64 6, .int .i64 c, .int .i64 t, .int .i64 e, .int .i64 n, .string name, .string data] 23) b1)
    have B1 := hid (below_catW (below_allocW _ _) b1)
    have P0 := cell_regrown (box_cell X1.out 0 (v := .int .i64 6) rfl)
    have P1 := cell_regrown (box_cell X1.out 1 (v := .int .i64 c) rfl)
    have P2 := cell_regrown (box_cell X1.out 2 (v := .int .i64 t) rfl)
    have P3 := cell_regrown (box_cell X1.out 3 (v := .int .i64 e) rfl)
    have P4 := cell_regrown (box_cell X1.out 4 (v := .int .i64 n) rfl)
    have P5 := cell_regrown (box_cell X1.out 5 (v := .string name) rfl)
    have P6 := cell_regrown (box_cell X1.out 6 (v := .string data) rfl)
    have kc := hid (rgs (w := w1) (fun w' => cntB_any c w'))
    rw [G0.out] at kc
    clear b1
    go_wp2_with fail
    refine wp_region_quiet_below (by kernel_rfl) (by kernel_rfl) ?_
    repeat (first | go_big_quiet_step ((go_at_call_of 32 (Value.int .i64 c); exact kc.out _ _)) | quiet_step ((go_at_call_of 32 (Value.int .i64 c); exact kc.out _ _)))
    refine wpQuiet_nil ?_
    intro _ hw'
    obtain ⟨⟨dq, osq⟩, hw''⟩ := hw'
    subst hw''
    have hbq := below_regrown w1 dq osq
    go_wp2
    go_ret
    exact ⟨rfl, below_catW B1.out hbq⟩
  | true =>
    have G0 := hid g0
    clear g0
    cases g1 : cntB t with
    | false =>
      have G1 := hid g1
      clear g1
      have hw2 := guard_word
      go_enter Tryd.func21, Tryd.ntmps21
      go_wp2_with fail
      refine (kindOf_6 c t e n name data _).mono ?_
      rintro r w1 ⟨rfl, b1⟩
      have X1 := hid (kept (laid w #[.int .i64 6, .int .i64 c, .int .i64 t, .int .i64 e, .int .i64 n, .string name, .string data] 23) b1)
      have B1 := hid (below_catW (below_allocW _ _) b1)
      have P0 := cell_regrown (box_cell X1.out 0 (v := .int .i64 6) rfl)
      have P1 := cell_regrown (box_cell X1.out 1 (v := .int .i64 c) rfl)
      have P2 := cell_regrown (box_cell X1.out 2 (v := .int .i64 t) rfl)
      have P3 := cell_regrown (box_cell X1.out 3 (v := .int .i64 e) rfl)
      have P4 := cell_regrown (box_cell X1.out 4 (v := .int .i64 n) rfl)
      have P5 := cell_regrown (box_cell X1.out 5 (v := .string name) rfl)
      have P6 := cell_regrown (box_cell X1.out 6 (v := .string data) rfl)
      have kc := hid (rgs (w := w1) (fun w' => cntB_any c w'))
      rw [G0.out] at kc
      have kt := hid (rgs (w := w1) (fun w' => cntB_any t w'))
      rw [G1.out] at kt
      clear b1
      go_wp2_with fail
      refine wp_region_quiet_below (by kernel_rfl) (by kernel_rfl) ?_
      repeat (first | go_big_quiet_step (first | (go_at_call_of 32 (Value.int .i64 c); exact kc.out _ _) | (go_at_call_of 32 (Value.int .i64 t); exact kt.out _ _)) | quiet_step (first | (go_at_call_of 32 (Value.int .i64 c); exact kc.out _ _) | (go_at_call_of 32 (Value.int .i64 t); exact kt.out _ _)))
      refine wpQuiet_nil ?_
      intro _ hw'
      obtain ⟨⟨dq, osq⟩, hw''⟩ := hw'
      subst hw''
      have hbq := below_regrown w1 dq osq
      go_wp2
      go_ret
      exact ⟨rfl, below_catW B1.out hbq⟩
    | true =>
      have G1 := hid g1
      clear g1
      cases g2 : decide (1 ≤ t) with
      | false =>
        have G2 := hid g2
        have g2' := g2
        have hw2 := guard_word
        go_enter Tryd.func21, Tryd.ntmps21
        go_wp2_with fail
        refine (kindOf_6 c t e n name data _).mono ?_
        rintro r w1 ⟨rfl, b1⟩
        have X1 := hid (kept (laid w #[.int .i64 6, .int .i64 c, .int .i64 t, .int .i64 e, .int .i64 n, .string name, .string data] 23) b1)
        have B1 := hid (below_catW (below_allocW _ _) b1)
        have P0 := cell_regrown (box_cell X1.out 0 (v := .int .i64 6) rfl)
        have P1 := cell_regrown (box_cell X1.out 1 (v := .int .i64 c) rfl)
        have P2 := cell_regrown (box_cell X1.out 2 (v := .int .i64 t) rfl)
        have P3 := cell_regrown (box_cell X1.out 3 (v := .int .i64 e) rfl)
        have P4 := cell_regrown (box_cell X1.out 4 (v := .int .i64 n) rfl)
        have P5 := cell_regrown (box_cell X1.out 5 (v := .string name) rfl)
        have P6 := cell_regrown (box_cell X1.out 6 (v := .string data) rfl)
        have kc := hid (rgs (w := w1) (fun w' => cntB_any c w'))
        rw [G0.out] at kc
        have kt := hid (rgs (w := w1) (fun w' => cntB_any t w'))
        rw [G1.out] at kt
        clear b1
        go_wp2_with fail
        refine wp_region_quiet_below (by kernel_rfl) (by kernel_rfl) ?_
        repeat (first | go_big_quiet_step (first | (go_at_call_of 32 (Value.int .i64 c); exact kc.out _ _) | (go_at_call_of 32 (Value.int .i64 t); exact kt.out _ _)) | quiet_step (first | (go_at_call_of 32 (Value.int .i64 c); exact kc.out _ _) | (go_at_call_of 32 (Value.int .i64 t); exact kt.out _ _)))
        refine wpQuiet_nil ?_
        intro _ hw'
        obtain ⟨⟨dq, osq⟩, hw''⟩ := hw'
        subst hw''
        have hbq := below_regrown w1 dq osq
        go_wp2
        go_ret
        exact ⟨rfl, below_catW B1.out hbq⟩
      | true =>
        have G2 := hid g2
        have g2' : 1 ≤ t := of_decide_eq_true g2
        clear g2
        cases g3 : (cntB e) with
        | false =>
          have G3 := hid g3
          clear g3
          have hw2 := guard_word
          go_enter Tryd.func21, Tryd.ntmps21
          go_wp2_with fail
          refine (kindOf_6 c t e n name data _).mono ?_
          rintro r w1 ⟨rfl, b1⟩
          have X1 := hid (kept (laid w #[.int .i64 6, .int .i64 c, .int .i64 t, .int .i64 e, .int .i64 n, .string name, .string data] 23) b1)
          have B1 := hid (below_catW (below_allocW _ _) b1)
          have P0 := cell_regrown (box_cell X1.out 0 (v := .int .i64 6) rfl)
          have P1 := cell_regrown (box_cell X1.out 1 (v := .int .i64 c) rfl)
          have P2 := cell_regrown (box_cell X1.out 2 (v := .int .i64 t) rfl)
          have P3 := cell_regrown (box_cell X1.out 3 (v := .int .i64 e) rfl)
          have P4 := cell_regrown (box_cell X1.out 4 (v := .int .i64 n) rfl)
          have P5 := cell_regrown (box_cell X1.out 5 (v := .string name) rfl)
          have P6 := cell_regrown (box_cell X1.out 6 (v := .string data) rfl)
          have kc := hid (rgs (w := w1) (fun w' => cntB_any c w'))
          rw [G0.out] at kc
          have kt := hid (rgs (w := w1) (fun w' => cntB_any t w'))
          rw [G1.out] at kt
          have kk := hid (rg (w := w1) (fun w' _ => kindOk_6 e w'))
          rw [G3.out] at kk
          clear b1
          go_wp2_with fail
          refine wp_region_quiet_below (by kernel_rfl) (by kernel_rfl) ?_
          repeat (first | go_big_quiet_step (first | (go_at_call_of 32 (Value.int .i64 c); exact kc.out _ _) | (go_at_call_of 32 (Value.int .i64 t); exact kt.out _ _) | (go_at_call 33; exact kk.out _ _)) | quiet_step (first | (go_at_call_of 32 (Value.int .i64 c); exact kc.out _ _) | (go_at_call_of 32 (Value.int .i64 t); exact kt.out _ _) | (go_at_call 33; exact kk.out _ _)))
          refine wpQuiet_nil ?_
          intro _ hw'
          obtain ⟨⟨dq, osq⟩, hw''⟩ := hw'
          subst hw''
          have hbq := below_regrown w1 dq osq
          go_wp2
          go_ret
          exact ⟨rfl, below_catW B1.out hbq⟩
        | true =>
          have G3 := hid g3
          clear g3
          cases g4 : (n == 0 && (name.toList == (⟨#[]⟩ : ByteArray).toList && data.toList == (⟨#[]⟩ : ByteArray).toList)) with
          | false =>
            have G4 := hid g4
            clear g4
            have hq : ∀ w : World, (binOp .eql 23 (.agg #[.int .i64 6, .int .i64 c, .int .i64 t, .int .i64 e, .int .i64 n, .string name, .string data]) (.agg #[.int .i64 6, .int .i64 c, .int .i64 t, .int .i64 e, .int .i64 0, .string ⟨#[]⟩, .string ⟨#[]⟩])).run Tryd.prog w = .ok (.bool false) w := fun w => by rw [run_eq_word]; exact congrArg (fun b => Result.ok (Value.bool b) w) G4.out
            have hw2 := guard_word
            go_enter Tryd.func21, Tryd.ntmps21
            go_wp2_with fail
            refine (kindOf_6 c t e n name data _).mono ?_
            rintro r w1 ⟨rfl, b1⟩
            have X1 := hid (kept (laid w #[.int .i64 6, .int .i64 c, .int .i64 t, .int .i64 e, .int .i64 n, .string name, .string data] 23) b1)
            have B1 := hid (below_catW (below_allocW _ _) b1)
            have P0 := cell_regrown (box_cell X1.out 0 (v := .int .i64 6) rfl)
            have P1 := cell_regrown (box_cell X1.out 1 (v := .int .i64 c) rfl)
            have P2 := cell_regrown (box_cell X1.out 2 (v := .int .i64 t) rfl)
            have P3 := cell_regrown (box_cell X1.out 3 (v := .int .i64 e) rfl)
            have P4 := cell_regrown (box_cell X1.out 4 (v := .int .i64 n) rfl)
            have P5 := cell_regrown (box_cell X1.out 5 (v := .string name) rfl)
            have P6 := cell_regrown (box_cell X1.out 6 (v := .string data) rfl)
            have kc := hid (rgs (w := w1) (fun w' => cntB_any c w'))
            rw [G0.out] at kc
            have kt := hid (rgs (w := w1) (fun w' => cntB_any t w'))
            rw [G1.out] at kt
            have kk := hid (rg (w := w1) (fun w' _ => kindOk_6 e w'))
            rw [G3.out] at kk
            have kf := hid (rg (w := w1) (fun w' _ => kindFrom_6 c t e w'))
            clear b1
            go_wp2_with fail
            refine wp_region_quiet_below (by kernel_rfl) (by kernel_rfl) ?_
            repeat (first | go_big_quiet_step (first | (go_at_call_of 32 (Value.int .i64 c); exact kc.out _ _) | (go_at_call_of 32 (Value.int .i64 t); exact kt.out _ _) | (go_at_call 33; exact kk.out _ _) | (go_at_call 34; exact kf.out _ _)) | quiet_step (first | (go_at_call_of 32 (Value.int .i64 c); exact kc.out _ _) | (go_at_call_of 32 (Value.int .i64 t); exact kt.out _ _) | (go_at_call 33; exact kk.out _ _) | (go_at_call 34; exact kf.out _ _)))
            refine wpQuiet_nil ?_
            intro _ hw'
            obtain ⟨⟨dq, osq⟩, hw''⟩ := hw'
            subst hw''
            have hbq := below_regrown w1 dq osq
            go_wp2
            go_ret
            exact ⟨rfl, below_catW B1.out hbq⟩
          | true =>
            have G4 := hid g4
            clear g4
            have hq : ∀ w : World, (binOp .eql 23 (.agg #[.int .i64 6, .int .i64 c, .int .i64 t, .int .i64 e, .int .i64 n, .string name, .string data]) (.agg #[.int .i64 6, .int .i64 c, .int .i64 t, .int .i64 e, .int .i64 0, .string ⟨#[]⟩, .string ⟨#[]⟩])).run Tryd.prog w = .ok (.bool true) w := fun w => by rw [run_eq_word]; exact congrArg (fun b => Result.ok (Value.bool b) w) G4.out
            have hw2 := guard_word
            go_enter Tryd.func21, Tryd.ntmps21
            go_wp2_with fail
            refine (kindOf_6 c t e n name data _).mono ?_
            rintro r w1 ⟨rfl, b1⟩
            have X1 := hid (kept (laid w #[.int .i64 6, .int .i64 c, .int .i64 t, .int .i64 e, .int .i64 n, .string name, .string data] 23) b1)
            have B1 := hid (below_catW (below_allocW _ _) b1)
            have P0 := cell_regrown (box_cell X1.out 0 (v := .int .i64 6) rfl)
            have P1 := cell_regrown (box_cell X1.out 1 (v := .int .i64 c) rfl)
            have P2 := cell_regrown (box_cell X1.out 2 (v := .int .i64 t) rfl)
            have P3 := cell_regrown (box_cell X1.out 3 (v := .int .i64 e) rfl)
            have P4 := cell_regrown (box_cell X1.out 4 (v := .int .i64 n) rfl)
            have P5 := cell_regrown (box_cell X1.out 5 (v := .string name) rfl)
            have P6 := cell_regrown (box_cell X1.out 6 (v := .string data) rfl)
            have kc := hid (rgs (w := w1) (fun w' => cntB_any c w'))
            rw [G0.out] at kc
            have kt := hid (rgs (w := w1) (fun w' => cntB_any t w'))
            rw [G1.out] at kt
            have kk := hid (rg (w := w1) (fun w' _ => kindOk_6 e w'))
            rw [G3.out] at kk
            have kf := hid (rg (w := w1) (fun w' _ => kindFrom_6 c t e w'))
            clear b1
            go_wp2_with fail
            refine wp_region_quiet_below (by kernel_rfl) (by kernel_rfl) ?_
            repeat (first | go_big_quiet_step (first | (go_at_call_of 32 (Value.int .i64 c); exact kc.out _ _) | (go_at_call_of 32 (Value.int .i64 t); exact kt.out _ _) | (go_at_call 33; exact kk.out _ _) | (go_at_call 34; exact kf.out _ _)) | quiet_step (first | (go_at_call_of 32 (Value.int .i64 c); exact kc.out _ _) | (go_at_call_of 32 (Value.int .i64 t); exact kt.out _ _) | (go_at_call 33; exact kk.out _ _) | (go_at_call 34; exact kf.out _ _)))
            refine wpQuiet_nil ?_
            intro _ hw'
            obtain ⟨⟨dq, osq⟩, hw''⟩ := hw'
            subst hw''
            have hbq := below_regrown w1 dq osq
            go_wp2
            go_ret
            exact ⟨rfl, below_catW B1.out hbq⟩
end Go.Proofs.YtpalcgelcnlhbaaDoor
