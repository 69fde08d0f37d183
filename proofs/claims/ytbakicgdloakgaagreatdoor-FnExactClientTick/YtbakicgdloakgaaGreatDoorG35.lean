/- Gettings that are ok, how many windows are known, whether all is: by the model. -/
import Derived.Test.YtbakicgdloakgaaGreatDoorG34
import Derived.Test.YtbakicgdloakgaaGreatDoorG21
import Derived.Test.YtbakicgdloakgaaGreatDoorG10
namespace Go.Proofs.YtbakicgdloakgaaGreatDoor
open Go.ChangeShapes Go.WideShapes Go.ChangeAt Go.RowKit Go.Sort Go.Shelf
attribute [local go_sem] Oper.semAt_some

set_option maxRecDepth 100000 in
set_option maxHeartbeats 4000000 in
theorem specGetOk_any (L S : Int) (a1 a2 : Option Addr) (c1 c2 : Nat) (ws gs : List Int) (C Z : Int) (a : Option Addr) (cap : Nat) (es : List EqV) (w : World) (ha1 : IntsAt w a1 ws) (ha2 : IntsAt w a2 gs) (hx : ws.length ≤ 1048576) (hy : gs.length ≤ 1048576) (ha : EqsAt w a es) (hl : es.length ≤ 1048576) (hsm : SmallE es) :
    Calls Tryz.prog 48 #[.agg #[.int .i64 L, .int .i64 S, .slice a1 ws.length c1, .slice a2 gs.length c2, .int .i64 C, .int .i64 Z, .slice a es.length cap]] w fun e w' => e = .returned (.bool (decide (getP L S ws gs C Z es))) ∧ Below w.heap.size w w' := by
  have HA := hid ha
  have HS := hid hsm
  have H1 := hid ha1
  have H2 := hid ha2
  clear ha hsm ha1 ha2
  go_enter Tryz.func48, Tryz.ntmps48
  repeat ((fail_if_success (with_reducible show Code.wp _ (Code.region 1 _ _) _ _ _)); (first | go_values | go_skip | go_guarded | go_step | go_upon | go_back | go_simp))
  obtain ⟨V, hV⟩ : ∃ V, V = w.alloc (.cells #[.int .i64 L, .int .i64 S, .slice a1 ws.length c1, .slice a2 gs.length c2, .int .i64 C, .int .i64 Z, .slice a es.length cap] 38) := ⟨_, rfl⟩
  have B := hid (show Below w.heap.size w V by rw [hV]; exact u_b1 _ _)
  have X : V.heap[w.heap.size]? = some (.cells #[.int .i64 L, .int .i64 S, .slice a1 ws.length c1, .slice a2 gs.length c2, .int .i64 C, .int .i64 Z, .slice a es.length cap] 38 (0, 0)) := by rw [hV]; exact laid _ _ _
  rw [← hV]
  clear hV
  have q0 := cell_regrown (box_cell X 0 (v := .int .i64 L) rfl)
  have q1 := cell_regrown (box_cell X 1 (v := .int .i64 S) rfl)
  have q2 := cell_regrown (box_cell X 2 (v := .slice a1 ws.length c1) rfl)
  have q3 := cell_regrown (box_cell X 3 (v := .slice a2 gs.length c2) rfl)
  have q4 := cell_regrown (box_cell X 4 (v := .int .i64 C) rfl)
  have q5 := cell_regrown (box_cell X 5 (v := .int .i64 Z) rfl)
  have q6 := cell_regrown (box_cell X 6 (v := .slice a es.length cap) rfl)
  have K1 := hid (rg (w := V) (fun w' hb => specPlanOk L S a1 a2 c1 c2 ws gs w' ((H1.out.below B.out).below hb) ((H2.out.below B.out).below hb) (by omega) (by omega)))
  have K2 := hid (rg (w := V) (fun w' hb => specSolverOk_any a cap es C Z w' ((HA.out.below B.out).below hb) HS.out hl))
  clear X
  by_cases hpl : planP L S ws gs
  · rw [decide_eq_true hpl] at K1
    have HPL := hid hpl
    have s1 := hpl.1.1
    have s2 := hpl.1.2.1
    have s3 := hpl.1.2.2.1
    have s4 := hpl.1.2.2.2.1
    have K3 := hid (rg (w := V) (fun w' _ => specCount L S a1 a2 ws.length c1 gs.length c2 w' s1 s2 s3 s4))
    clear hpl s1 s2 s3 s4
    by_cases hp : solverP C Z es
    · rw [decide_eq_true hp] at K2
      have HP := hid hp
      clear hp
      by_cases hc : C = cntI L S
      · have hc1 : (C == cntI L S) = true := by simpa using hc
        have HC := hid hc
        clear hc
        by_cases hz : Z = S
        · have hz1 : (Z == S) = true := by simpa using hz
          have HG := hid (decide_eq_true (show getP L S ws gs C Z es from ⟨HPL.out, HP.out, HC.out, hz⟩))
          clear hz
          refine wp_region_quiet_below (by kernel_rfl) (by kernel_rfl) ?_
          repeat (first | go_big_quiet_step (first | (go_at_call 68; with_reducible exact K1.out _ _) | (go_at_call 69; with_reducible exact K2.out _ _) | (go_at_call 70; with_reducible exact K3.out _ _)) | quiet_step (first | (go_at_call 68; with_reducible exact K1.out _ _) | (go_at_call 69; with_reducible exact K2.out _ _) | (go_at_call 70; with_reducible exact K3.out _ _)))
          refine wpQuiet_nil ?_
          intro V2 hw'
          obtain ⟨⟨dq, osq⟩, hw''⟩ := hw'
          have hbq := below_regrown V dq osq
          rw [← hw''] at hbq
          replace B := hid (u_cat B.out hbq)
          clear hw'' dq osq hbq q0 q1 q2 q3 q4 q5 q6
          go_wp2_with fail
          go_ret
          exact ⟨ret_bool HG.out.symm, B.out⟩
        · have hz1 : (Z == S) = false := by simpa using hz
          have HG := hid (decide_eq_false (show ¬ getP L S ws gs C Z es from fun h => hz h.2.2.2))
          clear hz
          refine wp_region_quiet_below (by kernel_rfl) (by kernel_rfl) ?_
          repeat (first | go_big_quiet_step (first | (go_at_call 68; with_reducible exact K1.out _ _) | (go_at_call 69; with_reducible exact K2.out _ _) | (go_at_call 70; with_reducible exact K3.out _ _)) | quiet_step (first | (go_at_call 68; with_reducible exact K1.out _ _) | (go_at_call 69; with_reducible exact K2.out _ _) | (go_at_call 70; with_reducible exact K3.out _ _)))
          refine wpQuiet_nil ?_
          intro V2 hw'
          obtain ⟨⟨dq, osq⟩, hw''⟩ := hw'
          have hbq := below_regrown V dq osq
          rw [← hw''] at hbq
          replace B := hid (u_cat B.out hbq)
          clear hw'' dq osq hbq q0 q1 q2 q3 q4 q5 q6
          go_wp2_with fail
          go_ret
          exact ⟨ret_bool HG.out.symm, B.out⟩
      · have hc1 : (C == cntI L S) = false := by simpa using hc
        have HG := hid (decide_eq_false (show ¬ getP L S ws gs C Z es from fun h => hc h.2.2.1))
        clear hc
        refine wp_region_quiet_below (by kernel_rfl) (by kernel_rfl) ?_
        repeat (first | go_big_quiet_step (first | (go_at_call 68; with_reducible exact K1.out _ _) | (go_at_call 69; with_reducible exact K2.out _ _) | (go_at_call 70; with_reducible exact K3.out _ _)) | quiet_step (first | (go_at_call 68; with_reducible exact K1.out _ _) | (go_at_call 69; with_reducible exact K2.out _ _) | (go_at_call 70; with_reducible exact K3.out _ _)))
        refine wpQuiet_nil ?_
        intro V2 hw'
        obtain ⟨⟨dq, osq⟩, hw''⟩ := hw'
        have hbq := below_regrown V dq osq
        rw [← hw''] at hbq
        replace B := hid (u_cat B.out hbq)
        clear hw'' dq osq hbq q0 q1 q2 q3 q4 q5 q6
        go_wp2_with fail
        go_ret
        exact ⟨ret_bool HG.out.symm, B.out⟩
    · rw [decide_eq_false hp] at K2
      have HG := hid (decide_eq_false (show ¬ getP L S ws gs C Z es from fun h => hp h.2.1))
      clear hp
      refine wp_region_quiet_below (by kernel_rfl) (by kernel_rfl) ?_
      repeat (first | go_big_quiet_step (first | (go_at_call 68; with_reducible exact K1.out _ _) | (go_at_call 69; with_reducible exact K2.out _ _)) | quiet_step (first | (go_at_call 68; with_reducible exact K1.out _ _) | (go_at_call 69; with_reducible exact K2.out _ _)))
      refine wpQuiet_nil ?_
      intro V2 hw'
      obtain ⟨⟨dq, osq⟩, hw''⟩ := hw'
      have hbq := below_regrown V dq osq
      rw [← hw''] at hbq
      replace B := hid (u_cat B.out hbq)
      clear hw'' dq osq hbq q0 q1 q2 q3 q4 q5 q6
      go_wp2_with fail
      go_ret
      exact ⟨ret_bool HG.out.symm, B.out⟩
  · rw [decide_eq_false hpl] at K1
    have HG := hid (decide_eq_false (show ¬ getP L S ws gs C Z es from fun h => hpl h.1))
    clear hpl
    refine wp_region_quiet_below (by kernel_rfl) (by kernel_rfl) ?_
    repeat (first | go_big_quiet_step ((go_at_call 68; with_reducible exact K1.out _ _)) | quiet_step ((go_at_call 68; with_reducible exact K1.out _ _)))
    refine wpQuiet_nil ?_
    intro V2 hw'
    obtain ⟨⟨dq, osq⟩, hw''⟩ := hw'
    have hbq := below_regrown V dq osq
    rw [← hw''] at hbq
    replace B := hid (u_cat B.out hbq)
    clear hw'' dq osq hbq q0 q1 q2 q3 q4 q5 q6
    go_wp2_with fail
    go_ret
    exact ⟨ret_bool HG.out.symm, B.out⟩
end Go.Proofs.YtbakicgdloakgaaGreatDoor
