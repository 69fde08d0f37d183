/- Words: what is ok by the program, all kinds. -/
import Derived.Test.YtpalcgelcnlhbaaDoorWordO
import Derived.Test.YtpalcgelcnlhbaaDoorWordP
namespace Go.Proofs.YtpalcgelcnlhbaaDoor
open Go.ChangeShapes Go.WideShapes Go.ChangeAt Go.RowKit Go.Sort

theorem kindOf_no (k c t e n : Int) (name data : ByteArray) (w : World) (h1 : (k == 1) = false) (h2 : (k == 2) = false) (h3 : (k == 3) = false) (h4 : (k == 4) = false) (h5 : (k == 5) = false) (h6 : (k == 6) = false) :
    Calls Tryd.prog 31 #[.agg #[.int .i64 k, .int .i64 c, .int .i64 t, .int .i64 e, .int .i64 n, .string name, .string data]] w fun r w' => r = .returned .nilIface ∧ Below w.heap.size w w' := by
  go_enter Tryd.func31, Tryd.ntmps31
  go_wp2
  go_ret
  exact ⟨rfl, below_allocW _ _⟩
theorem kindOk_no (w : World) : Calls Tryd.prog 33 #[.nilIface] w fun r w' => r = .returned (.bool false) ∧ w' = w := by
  have ta1 : ∀ w : World, (Instr.typeAssert .nilIface 55 65 true).run Tryd.prog w = .ok (.tuple #[.agg #[.int .i64 0, .string ⟨#[]⟩], .bool false]) w := fun _ => by kernel_rfl
  have ta2 : ∀ w : World, (Instr.typeAssert .nilIface 55 67 true).run Tryd.prog w = .ok (.tuple #[.agg #[.int .i64 0, .string ⟨#[]⟩], .bool false]) w := fun _ => by kernel_rfl
  have ta3 : ∀ w : World, (Instr.typeAssert .nilIface 55 69 true).run Tryd.prog w = .ok (.tuple #[.agg #[.int .i64 0, .int .i64 0, .string ⟨#[]⟩], .bool false]) w := fun _ => by kernel_rfl
  have ta4 : ∀ w : World, (Instr.typeAssert .nilIface 55 71 true).run Tryd.prog w = .ok (.tuple #[.agg #[.int .i64 0, .int .i64 0], .bool false]) w := fun _ => by kernel_rfl
  have ta5 : ∀ w : World, (Instr.typeAssert .nilIface 55 72 true).run Tryd.prog w = .ok (.tuple #[.agg #[.int .i64 0, .int .i64 0], .bool false]) w := fun _ => by kernel_rfl
  have ta6 : ∀ w : World, (Instr.typeAssert .nilIface 55 74 true).run Tryd.prog w = .ok (.tuple #[.agg #[.int .i64 0], .bool false]) w := fun _ => by kernel_rfl
  go_enter Tryd.func33, Tryd.ntmps33
  go_wp2
  go_ret
  exact ⟨rfl, rfl⟩

set_option maxHeartbeats 4000000 in
theorem implWordOk_no (k c t e n : Int) (name data : ByteArray) (w : World) (h : (k == 1) = false ∧ (k == 2) = false ∧ (k == 3) = false ∧ (k == 4) = false ∧ (k == 5) = false ∧ (k == 6) = false) :
    Calls Tryd.prog 21 #[.agg #[.int .i64 k, .int .i64 c, .int .i64 t, .int .i64 e, .int .i64 n, .string name, .string data]] w fun r w' => r = .returned (.bool false) ∧ Below w.heap.size w w' := by
  have H := hid h
  clear h
  cases g0 : cntB c with
  | false =>
    have G0 := hid g0
    clear g0
    go_enter Tryd.func21, Tryd.ntmps21
    go_wp2_with fail
    refine (kindOf_no k c t e n name data _ H.out.1 H.out.2.1 H.out.2.2.1 H.out.2.2.2.1 H.out.2.2.2.2.1 H.out.2.2.2.2.2).mono ?_
    rintro r w1 ⟨rfl, b1⟩
    have X1 := hid (kept (laid w #[.int .i64 k, .int .i64 c, .int .i64 t, .int .i64 e, .int .i64 n, .string name, .string data] 23) b1)
    have B1 := hid (below_catW (below_allocW _ _) b1)
    have P0 := cell_regrown (box_cell X1.out 0 (v := .int .i64 k) rfl)
    have P1 := cell_regrown (box_cell X1.out 1 (v := .int .i64 c) rfl)
    have P2 := cell_regrown (box_cell X1.out 2 (v := .int .i64 t) rfl)
    have P3 := cell_regrown (box_cell X1.out 3 (v := .int .i64 e) rfl)
    have P4 := cell_regrown (box_cell X1.out 4 (v := .int .i64 n) rfl)
    have P5 := cell_regrown (box_cell X1.out 5 (v := .string name) rfl)
    have P6 := cell_regrown (box_cell X1.out 6 (v := .string data) rfl)
    have kc := hid (rgs (w := w1) (fun w' => cntB_any c w'))
    rw [G0.out] at kc
    clear b1
    go_wp2_with fail
    refine wp_region_quiet_below (by kernel_rfl) (by kernel_rfl) ?_
    repeat (first | go_big_quiet_step ((go_at_call_of 32 (Value.int .i64 c); exact kc.out _ _)) | quiet_step ((go_at_call_of 32 (Value.int .i64 c); exact kc.out _ _)))
    refine wpQuiet_nil ?_
    intro _ hw'
    obtain ⟨⟨dq, osq⟩, hw''⟩ := hw'
    subst hw''
    have hbq := below_regrown w1 dq osq
    go_wp2
    go_ret
    exact ⟨rfl, below_catW B1.out hbq⟩
  | true =>
    have G0 := hid g0
    clear g0
    cases g1 : cntB t with
    | false =>
      have G1 := hid g1
      clear g1
      go_enter Tryd.func21, Tryd.ntmps21
      go_wp2_with fail
      refine (kindOf_no k c t e n name data _ H.out.1 H.out.2.1 H.out.2.2.1 H.out.2.2.2.1 H.out.2.2.2.2.1 H.out.2.2.2.2.2).mono ?_
      rintro r w1 ⟨rfl, b1⟩
      have X1 := hid (kept (laid w #[.int .i64 k, .int .i64 c, .int .i64 t, .int .i64 e, .int .i64 n, .string name, .string data] 23) b1)
      have B1 := hid (below_catW (below_allocW _ _) b1)
      have P0 := cell_regrown (box_cell X1.out 0 (v := .int .i64 k) rfl)
      have P1 := cell_regrown (box_cell X1.out 1 (v := .int .i64 c) rfl)
      have P2 := cell_regrown (box_cell X1.out 2 (v := .int .i64 t) rfl)
      have P3 := cell_regrown (box_cell X1.out 3 (v := .int .i64 e) rfl)
      have P4 := cell_regrown (box_cell X1.out 4 (v := .int .i64 n) rfl)
      have P5 := cell_regrown (box_cell X1.out 5 (v := .string name) rfl)
      have P6 := cell_regrown (box_cell X1.out 6 (v := .string data) rfl)
      have kc := hid (rgs (w := w1) (fun w' => cntB_any c w'))
      rw [G0.out] at kc
      have kt := hid (rgs (w := w1) (fun w' => cntB_any t w'))
      rw [G1.out] at kt
      clear b1
      go_wp2_with fail
      refine wp_region_quiet_below (by kernel_rfl) (by kernel_rfl) ?_
      repeat (first | go_big_quiet_step (first | (go_at_call_of 32 (Value.int .i64 c); exact kc.out _ _) | (go_at_call_of 32 (Value.int .i64 t); exact kt.out _ _)) | quiet_step (first | (go_at_call_of 32 (Value.int .i64 c); exact kc.out _ _) | (go_at_call_of 32 (Value.int .i64 t); exact kt.out _ _)))
      refine wpQuiet_nil ?_
      intro _ hw'
      obtain ⟨⟨dq, osq⟩, hw''⟩ := hw'
      subst hw''
      have hbq := below_regrown w1 dq osq
      go_wp2
      go_ret
      exact ⟨rfl, below_catW B1.out hbq⟩
    | true =>
      have G1 := hid g1
      clear g1
      cases g2 : decide (1 ≤ t) with
      | false =>
        have G2 := hid g2
        have g2' := g2
        go_enter Tryd.func21, Tryd.ntmps21
        go_wp2_with fail
        refine (kindOf_no k c t e n name data _ H.out.1 H.out.2.1 H.out.2.2.1 H.out.2.2.2.1 H.out.2.2.2.2.1 H.out.2.2.2.2.2).mono ?_
        rintro r w1 ⟨rfl, b1⟩
        have X1 := hid (kept (laid w #[.int .i64 k, .int .i64 c, .int .i64 t, .int .i64 e, .int .i64 n, .string name, .string data] 23) b1)
        have B1 := hid (below_catW (below_allocW _ _) b1)
        have P0 := cell_regrown (box_cell X1.out 0 (v := .int .i64 k) rfl)
        have P1 := cell_regrown (box_cell X1.out 1 (v := .int .i64 c) rfl)
        have P2 := cell_regrown (box_cell X1.out 2 (v := .int .i64 t) rfl)
        have P3 := cell_regrown (box_cell X1.out 3 (v := .int .i64 e) rfl)
        have P4 := cell_regrown (box_cell X1.out 4 (v := .int .i64 n) rfl)
        have P5 := cell_regrown (box_cell X1.out 5 (v := .string name) rfl)
        have P6 := cell_regrown (box_cell X1.out 6 (v := .string data) rfl)
        have kc := hid (rgs (w := w1) (fun w' => cntB_any c w'))
        rw [G0.out] at kc
        have kt := hid (rgs (w := w1) (fun w' => cntB_any t w'))
        rw [G1.out] at kt
        clear b1
        go_wp2_with fail
        refine wp_region_quiet_below (by kernel_rfl) (by kernel_rfl) ?_
        repeat (first | go_big_quiet_step (first | (go_at_call_of 32 (Value.int .i64 c); exact kc.out _ _) | (go_at_call_of 32 (Value.int .i64 t); exact kt.out _ _)) | quiet_step (first | (go_at_call_of 32 (Value.int .i64 c); exact kc.out _ _) | (go_at_call_of 32 (Value.int .i64 t); exact kt.out _ _)))
        refine wpQuiet_nil ?_
        intro _ hw'
        obtain ⟨⟨dq, osq⟩, hw''⟩ := hw'
        subst hw''
        have hbq := below_regrown w1 dq osq
        go_wp2
        go_ret
        exact ⟨rfl, below_catW B1.out hbq⟩
      | true =>
        have G2 := hid g2
        have g2' : 1 ≤ t := of_decide_eq_true g2
        clear g2
        go_enter Tryd.func21, Tryd.ntmps21
        go_wp2_with fail
        refine (kindOf_no k c t e n name data _ H.out.1 H.out.2.1 H.out.2.2.1 H.out.2.2.2.1 H.out.2.2.2.2.1 H.out.2.2.2.2.2).mono ?_
        rintro r w1 ⟨rfl, b1⟩
        have X1 := hid (kept (laid w #[.int .i64 k, .int .i64 c, .int .i64 t, .int .i64 e, .int .i64 n, .string name, .string data] 23) b1)
        have B1 := hid (below_catW (below_allocW _ _) b1)
        have P0 := cell_regrown (box_cell X1.out 0 (v := .int .i64 k) rfl)
        have P1 := cell_regrown (box_cell X1.out 1 (v := .int .i64 c) rfl)
        have P2 := cell_regrown (box_cell X1.out 2 (v := .int .i64 t) rfl)
        have P3 := cell_regrown (box_cell X1.out 3 (v := .int .i64 e) rfl)
        have P4 := cell_regrown (box_cell X1.out 4 (v := .int .i64 n) rfl)
        have P5 := cell_regrown (box_cell X1.out 5 (v := .string name) rfl)
        have P6 := cell_regrown (box_cell X1.out 6 (v := .string data) rfl)
        have kc := hid (rgs (w := w1) (fun w' => cntB_any c w'))
        rw [G0.out] at kc
        have kt := hid (rgs (w := w1) (fun w' => cntB_any t w'))
        rw [G1.out] at kt
        have kk := hid (rgs (w := w1) (fun w' => kindOk_no w'))
        clear b1
        go_wp2_with fail
        refine wp_region_quiet_below (by kernel_rfl) (by kernel_rfl) ?_
        repeat (first | go_big_quiet_step (first | (go_at_call_of 32 (Value.int .i64 c); exact kc.out _ _) | (go_at_call_of 32 (Value.int .i64 t); exact kt.out _ _) | (go_at_call 33; exact kk.out _ _)) | quiet_step (first | (go_at_call_of 32 (Value.int .i64 c); exact kc.out _ _) | (go_at_call_of 32 (Value.int .i64 t); exact kt.out _ _) | (go_at_call 33; exact kk.out _ _)))
        refine wpQuiet_nil ?_
        intro _ hw'
        obtain ⟨⟨dq, osq⟩, hw''⟩ := hw'
        subst hw''
        have hbq := below_regrown w1 dq osq
        go_wp2
        go_ret
        exact ⟨rfl, below_catW B1.out hbq⟩

/-- A word that is ok. -/
def wordB (k c t e n : Int) (name data : ByteArray) : Bool :=
  if k == 1 then (cntB c && (cntB t && (decide (1 ≤ t) && ((cntB e && nameB name) && (n == 0 && (name.toList == name.toList && data.toList == (⟨#[]⟩ : ByteArray).toList)))))) else
  if k == 2 then (cntB c && (cntB t && (decide (1 ≤ t) && ((edB e && datB data) && (n == 0 && (name.toList == (⟨#[]⟩ : ByteArray).toList && data.toList == data.toList)))))) else
  if k == 3 then (cntB c && (cntB t && (decide (1 ≤ t) && ((edB e && cntB n && datB data) && (n == n && (name.toList == (⟨#[]⟩ : ByteArray).toList && data.toList == data.toList)))))) else
  if k == 4 then (cntB c && (cntB t && (decide (1 ≤ t) && ((edB e && cntB n) && (n == n && (name.toList == (⟨#[]⟩ : ByteArray).toList && data.toList == (⟨#[]⟩ : ByteArray).toList)))))) else
  if k == 5 then (cntB c && (cntB t && (decide (1 ≤ t) && ((edB e && cntB n) && (n == n && (name.toList == (⟨#[]⟩ : ByteArray).toList && data.toList == (⟨#[]⟩ : ByteArray).toList)))))) else
  if k == 6 then (cntB c && (cntB t && (decide (1 ≤ t) && ((cntB e) && (n == 0 && (name.toList == (⟨#[]⟩ : ByteArray).toList && data.toList == (⟨#[]⟩ : ByteArray).toList)))))) else
  false

theorem implWordOk (k c t e n : Int) (name data : ByteArray) (w : World) (hs : name.size ≤ maxLen) :
    Calls Tryd.prog 21 #[.agg #[.int .i64 k, .int .i64 c, .int .i64 t, .int .i64 e, .int .i64 n, .string name, .string data]] w fun r w' => r = .returned (.bool (wordB k c t e n name data)) ∧ Below w.heap.size w w' := by
  by_cases h1 : k = 1
  · subst h1
    exact implWordOk_1 c t e n name data w hs
  by_cases h2 : k = 2
  · subst h2
    exact implWordOk_2 c t e n name data w hs
  by_cases h3 : k = 3
  · subst h3
    exact implWordOk_3 c t e n name data w hs
  by_cases h4 : k = 4
  · subst h4
    exact implWordOk_4 c t e n name data w hs
  by_cases h5 : k = 5
  · subst h5
    exact implWordOk_5 c t e n name data w hs
  by_cases h6 : k = 6
  · subst h6
    exact implWordOk_6 c t e n name data w hs
  have e : wordB k c t e n name data = false := by simp [wordB, h1, h2, h3, h4, h5, h6]
  rw [e]
  exact implWordOk_no k c t _ n name data w (by simp [h1, h2, h3, h4, h5, h6])
end Go.Proofs.YtpalcgelcnlhbaaDoor
