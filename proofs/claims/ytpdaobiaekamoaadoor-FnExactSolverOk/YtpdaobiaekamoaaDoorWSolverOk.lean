/- The walk of the law on which solvers are ok. -/
import Derived.Test.YtpdaobiaekamoaaDoorSlX
import Derived.Test.YtpdaobiaekamoaaDoorSlV
import Derived.Deep.RegionHeld3
namespace Go.Proofs.YtpdaobiaekamoaaDoor
open Go.ChangeShapes Go.WideShapes Go.ChangeAt Go.RowKit Go.Sort Go.Shelf

theorem EqsAt.drewNsolverOk {w : World} {a : Option Addr} {es : List EqV} (h : EqsAt w a es) (n : Nat) : EqsAt (w.drewN n) a es := h.below (below_drewN (Below.refl _ _) n)

set_option maxHeartbeats 8000000 in
theorem solverOk_of (a : Option Addr) (cap : Nat) (es : List EqV) (c z : Int) (B : Bool) (w : World) (ha : EqsAt w a es) (hn : es.length ≤ 9223372036854775807) (hL : LongE es) (hT : Tab w)
    (hsp : ∀ a c' fs w, EqsAt w a fs → SamV fs es → fs.length ≤ 1048576 → SmallE fs → Calls Tryd.prog 11 #[.agg #[.int .i64 c, .int .i64 z, .slice a fs.length c']] w fun e w' => e = .returned (.bool B) ∧ Below w.heap.size w w')
    (him : ∀ a c' fs w, EqsAt w a fs → SamV fs es → fs.length ≤ 1048576 → SmallE fs → Tab w → Calls Tryd.prog 13 #[.agg #[.int .i64 c, .int .i64 z, .slice a fs.length c']] w fun e w' => e = .returned (.bool B) ∧ Below w.heap.size w w') :
    Calls Tryd.prog 3 #[.agg #[.int .i64 c, .int .i64 z, .slice a es.length cap]] w fun e w' => e = .returned (.bool true) ∧ Below w.heap.size w w' := by
  have HA := hid ha
  have HT := hid hT
  have HSP := hid hsp
  have HIM := hid him
  clear ha hT hsp him
  go_enter Tryd.func3, Tryd.ntmps3
  go_wp2_with fail
  refine (szSolver_ex a cap es c z _ (HA.out.below (u_b1 _ _)) hn hL).mono ?_
  rintro e w1 ⟨v, rfl, hv, b1⟩
  have X := hid (kept (laid w #[.int .i64 c, .int .i64 z, .slice a es.length cap] 24) b1)
  have B := hid (u_cat (u_b1 _ _) b1)
  have HV := hid hv
  clear b1 hv
  by_cases hv0 : v < 0
  · go_wp2_with fail
    go_ret
    exact ⟨rfl, B.out⟩
  obtain ⟨⟨hs, hsm⟩, -, -⟩ := HV.out.resolve_left hv0
  have HS := hid hsm
  have hvv : ¬ (v < 0) := hv0
  clear hsm HV
  have p0 := box_cell X.out 0 (v := .int .i64 c) rfl
  have p1 := box_cell X.out 1 (v := .int .i64 z) rfl
  have p2 := box_cell X.out 2 (v := .slice a es.length cap) rfl
  go_wp2_with fail
  refine (toSolver_any a cap es c z _ (HA.out.below B.out) hs HS.out).mono ?_
  rintro e w2 ⟨r1, f1, fs, rfl, o2, s2, q2, b2⟩
  have X := hid (kept X.out b2)
  have B := hid (u_cat B.out b2)
  have I1 := hid (eqs_at o2 q2)
  have M1 := hid s2
  clear b2 p0 p1 p2 o2 s2 q2
  go_wp2_with fail
  refine (HSP.out r1 f1 fs _ I1.out M1.out (by rw [M1.out.len]; exact hs) (M1.out.symm.small HS.out)).mono ?_
  rintro e w3 ⟨rfl, b3⟩
  have X := hid (kept X.out b3)
  have B := hid (u_cat B.out b3)
  clear b3 I1 M1
  have p0 := box_cell X.out 0 (v := .int .i64 c) rfl
  have p1 := box_cell X.out 1 (v := .int .i64 z) rfl
  have p2 := box_cell X.out 2 (v := .slice a es.length cap) rfl
  go_wp2_with fail
  refine (toSolver_any a cap es c z _ (HA.out.below B.out) hs HS.out).mono ?_
  rintro e w4 ⟨r2, f2, gs, rfl, o4, s4, q4, b4⟩
  have b4' := u_cat b4 (u_b1 w4 (.cells #[.int .i64 c, .int .i64 z, .slice r2 gs.length f2] 29))
  have X := hid (kept X.out b4')
  have B := hid (u_cat B.out b4')
  have Y := hid (laid w4 #[.int .i64 c, .int .i64 z, .slice r2 gs.length f2] 29)
  have J1 := hid ((eqs_at o4 q4).below (u_b1 w4 (.cells #[.int .i64 c, .int .i64 z, .slice r2 gs.length f2] 29)))
  have M2 := hid s4
  clear b4 b4' p0 p1 p2 o4 s4 q4
  go_wp2_with fail
  refine (HIM.out r2 f2 gs _ J1.out M2.out (by rw [M2.out.len]; exact hs) (M2.out.symm.small HS.out) (HT.out.below B.out)).mono ?_
  rintro e w5 ⟨rfl, b5⟩
  have X := hid (kept X.out b5)
  have B := hid (u_cat B.out b5)
  have Y := hid (kept Y.out b5)
  have J1 := hid (J1.out.below b5)
  have p0 := box_cell X.out 0 (v := .int .i64 c) rfl
  have p1 := box_cell X.out 1 (v := .int .i64 z) rfl
  have p2 := box_cell X.out 2 (v := .slice a es.length cap) rfl
  have s0 := box_cell Y.out 0 (v := .int .i64 c) rfl
  have s1 := box_cell Y.out 1 (v := .int .i64 z) rfl
  have s2 := box_cell Y.out 2 (v := .slice r2 gs.length f2) rfl
  have m1 : w.heap.size < w5.heap.size := lt_of_block X.out
  have m2 : w4.heap.size < w5.heap.size := lt_of_block Y.out
  clear b5
  go_wp2_with fail
  go_region_held3 (fun w' => w'.cell? ⟨w.heap.size, 0, none⟩ = some (.int .i64 c) ∧ w'.cell? ⟨w.heap.size, 1, none⟩ = some (.int .i64 z) ∧ w'.cell? ⟨w.heap.size, 2, none⟩ = some (.slice a es.length cap) ∧ w'.cell? ⟨w4.heap.size, 0, none⟩ = some (.int .i64 c) ∧ w'.cell? ⟨w4.heap.size, 1, none⟩ = some (.int .i64 z) ∧ w'.cell? ⟨w4.heap.size, 2, none⟩ = some (.slice r2 gs.length f2)) (go_keep) (first
    | (go_at_call 12; refine (toSolver_any a cap es c z _ (by exact EqsAt.drewNsolverOk (HA.out.below B.out) 1) hs HS.out).mono ?_; rintro e w6 ⟨t1, h1, ks, rfl, k1, k2, k3, b6⟩; have hc6 : ∀ bb o, bb < w5.heap.size → w6.cell? ⟨bb, o, none⟩ = w5.cell? ⟨bb, o, none⟩ := (u_cell b6).1; have I1 := hid (eqs_at k1 k3); have M3 := hid k2; have B6 := hid b6; clear k1 k2 k3 b6)
    | (go_at_call 14; refine (eqSolver_same r2 t1 f2 h1 gs ks c z _ (by exact (EqsAt.drewNsolverOk J1.out 1).below B6.out) (by exact I1.out) (M2.out.trans M3.out.symm) (by rw [M2.out.len]; exact hs) (M2.out.symm.small HS.out)).mono ?_; rintro e w7 ⟨rfl, b7⟩; have hc7 : ∀ bb o, bb < w6.heap.size → w7.cell? ⟨bb, o, none⟩ = w6.cell? ⟨bb, o, none⟩ := (u_cell b7).1; have m3 : w5.heap.size ≤ w6.heap.size := B6.out.size; have m4 : w.heap.size < w6.heap.size := (by omega); have m5 : w4.heap.size < w6.heap.size := (by omega); have B7 := hid b7; clear b7))
  all_goals go_wp2
  all_goals go_ret
  all_goals exact ⟨rfl, u_cat (u_cat (below_drewN B.out 1) B6.out) B7.out⟩

theorem walk_FnExactSolverOk (cs0 : List Value) (w : World) (w0 : Reads w 24 cs0) (hT : Tab w) :
    Calls Tryd.prog 3 #[.agg cs0.toArray] w fun e w' => e = .returned (.bool true) ∧ Below w.heap.size w w' := by
  obtain ⟨c, z, a, cap, es, rfl, ha, hl, hL⟩ := reads_solver w0
  exact solverOk_of a cap es c z (decide (solverP c z es)) w ha hl hL hT
    (fun a c' fs w ha hs hx hsm => by have h := specSolverOk_any a c' fs c z w ha hsm hx; rw [decide_eq_decide.2 hs.solver] at h; exact h)
    (fun a c' fs w ha hs hx hsm hT => by have h := implSolverOk_any a c' fs c z w ha hsm hx hT; rw [decide_eq_decide.2 hs.solver] at h; exact h)
end Go.Proofs.YtpdaobiaekamoaaDoor
