/- What is known of a solver, by the model. -/
import Derived.Test.YtpdaobiaekamoaaDoorSlUa
import Derived.Test.YtpdaobiaekamoaaDoorSlD
namespace Go.Proofs.YtpdaobiaekamoaaDoor
open Go.ChangeShapes Go.WideShapes Go.ChangeAt Go.RowKit Go.Sort Go.Shelf
attribute [local go_sem] Oper.semAt_some

set_option maxHeartbeats 2000000 in
theorem specSolverGet_any (a : Option Addr) (cap : Nat) (es : List EqV) (c z at' : Int) (w : World) (ha : EqsAt w a es) (hsm : SmallE es) (hl : es.length ≤ 1048576) :
    Calls Tryd.prog 22 #[.agg #[.int .i64 c, .int .i64 z, .slice a es.length cap], .int .i64 at'] w fun e w' => e = .returned (.tuple #[.string (gotS (getE (eqsOf c z es) at')), .bool (getE (eqsOf c z es) at').isSome]) ∧ Below w.heap.size w w' := by
  have HA := hid ha
  have HS := hid hsm
  clear ha hsm
  by_cases hp : solverP c z es
  · have K := hid (fun w ha => specSolverOk_any a cap es c z w ha HS.out hl)
    rw [decide_eq_true hp] at K
    have HE := hid (eqsOf_yes hp)
    clear hp
    go_enter Tryd.func22, Tryd.ntmps22
    go_wp2_with fail
    refine (K.out _ (HA.out.below (u_b1 _ _))).mono ?_
    rintro e w1 ⟨rfl, b1⟩
    obtain ⟨X, B⟩ := u_box b1
    have HB := hid B
    have q0 := box_cell X 0 (v := .int .i64 c) rfl
    have q1 := box_cell X 1 (v := .int .i64 z) rfl
    have q2 := box_cell X 2 (v := .slice a es.length cap) rfl
    clear b1 X B
    go_wp2_with fail
    refine (l3Get_any a cap es c z at' _ (HA.out.below HB.out) HS.out hl).mono ?_
    rintro e w2 ⟨rfl, b2⟩
    go_wp2_with fail
    go_ret2
    rw [HE.out]
    exact ⟨rfl, u_cat HB.out b2⟩
  · have K := hid (fun w ha => specSolverOk_any a cap es c z w ha HS.out hl)
    rw [decide_eq_false hp] at K
    have HE := hid (eqsOf_no hp)
    clear hp
    go_enter Tryd.func22, Tryd.ntmps22
    go_wp2_with fail
    refine (K.out _ (HA.out.below (u_b1 _ _))).mono ?_
    rintro e w1 ⟨rfl, b1⟩
    have HB := hid (u_box b1).2
    clear b1
    go_wp2_with fail
    go_ret2
    exact ⟨by rw [HE.out]; rfl, HB.out⟩

set_option maxHeartbeats 2000000 in
theorem specSolverRank_any (a : Option Addr) (cap : Nat) (es : List EqV) (c z : Int) (w : World) (ha : EqsAt w a es) (hsm : SmallE es) (hl : es.length ≤ 1048576) :
    Calls Tryd.prog 24 #[.agg #[.int .i64 c, .int .i64 z, .slice a es.length cap]] w fun e w' => e = .returned (.int .i64 (eqsOf c z es).length) ∧ Below w.heap.size w w' := by
  have HA := hid ha
  have HS := hid hsm
  clear ha hsm
  by_cases hp : solverP c z es
  · have K := hid (fun w ha => specSolverOk_any a cap es c z w ha HS.out hl)
    rw [decide_eq_true hp] at K
    have HE := hid (eqsOf_yes hp)
    clear hp
    go_enter Tryd.func24, Tryd.ntmps24
    go_wp2_with fail
    refine (K.out _ (HA.out.below (u_b1 _ _))).mono ?_
    rintro e w1 ⟨rfl, b1⟩
    obtain ⟨X, B⟩ := u_box b1
    have HB := hid B
    have q2 := box_cell X 2 (v := .slice a es.length cap) rfl
    clear b1 X B
    go_wp2_with fail
    go_ret
    exact ⟨ret_int (by rw [HE.out]), HB.out⟩
  · have K := hid (fun w ha => specSolverOk_any a cap es c z w ha HS.out hl)
    rw [decide_eq_false hp] at K
    have HE := hid (eqsOf_no hp)
    clear hp
    go_enter Tryd.func24, Tryd.ntmps24
    go_wp2_with fail
    refine (K.out _ (HA.out.below (u_b1 _ _))).mono ?_
    rintro e w1 ⟨rfl, b1⟩
    have HB := hid (u_box b1).2
    clear b1
    go_wp2_with fail
    go_ret
    exact ⟨ret_int (by rw [HE.out]; rfl), HB.out⟩

set_option maxHeartbeats 2000000 in
theorem specSolverPrefix_any (a : Option Addr) (cap : Nat) (es : List EqV) (c z : Int) (w : World) (ha : EqsAt w a es) (hsm : SmallE es) (hl : es.length ≤ 1048576) :
    Calls Tryd.prog 26 #[.agg #[.int .i64 c, .int .i64 z, .slice a es.length cap]] w fun e w' => e = .returned (.int .i64 (pfx 0 ((eqsOf c z es).map EqV.r))) ∧ Below w.heap.size w w' := by
  have HA := hid ha
  have HS := hid hsm
  clear ha hsm
  by_cases hp : solverP c z es
  · have K := hid (fun w ha => specSolverOk_any a cap es c z w ha HS.out hl)
    rw [decide_eq_true hp] at K
    have HE := hid (eqsOf_yes hp)
    have HO := hid hp.2
    clear hp
    go_enter Tryd.func26, Tryd.ntmps26
    go_wp2_with fail
    refine (K.out _ (HA.out.below (u_b1 _ _))).mono ?_
    rintro e w1 ⟨rfl, b1⟩
    obtain ⟨X, B⟩ := u_box b1
    have HB := hid B
    have q0 := box_cell X 0 (v := .int .i64 c) rfl
    have q1 := box_cell X 1 (v := .int .i64 z) rfl
    have q2 := box_cell X 2 (v := .slice a es.length cap) rfl
    clear b1 X B
    go_wp2_with fail
    refine (l3Prefix_any a cap es c z _ (HA.out.below HB.out) HS.out hl HO.out).mono ?_
    rintro e w2 ⟨rfl, b2⟩
    go_wp2_with fail
    go_ret
    exact ⟨ret_int (by rw [HE.out]), u_cat HB.out b2⟩
  · have K := hid (fun w ha => specSolverOk_any a cap es c z w ha HS.out hl)
    rw [decide_eq_false hp] at K
    have HE := hid (eqsOf_no hp)
    clear hp
    go_enter Tryd.func26, Tryd.ntmps26
    go_wp2_with fail
    refine (K.out _ (HA.out.below (u_b1 _ _))).mono ?_
    rintro e w1 ⟨rfl, b1⟩
    have HB := hid (u_box b1).2
    clear b1
    go_wp2_with fail
    go_ret
    exact ⟨ret_int (by rw [HE.out]; rfl), HB.out⟩
end Go.Proofs.YtpdaobiaekamoaaDoor
