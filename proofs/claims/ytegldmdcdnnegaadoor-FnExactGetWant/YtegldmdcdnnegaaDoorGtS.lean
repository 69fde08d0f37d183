/- Gettings that are ok, how many windows are known, whether all is: by the model. -/
import Derived.Test.YtegldmdcdnnegaaDoorGtW
import Derived.Test.YtegldmdcdnnegaaDoorPlanSB
namespace Go.Proofs.YtegldmdcdnnegaaDoor
open Go.ChangeShapes Go.WideShapes Go.ChangeAt Go.RowKit Go.Sort Go.Shelf
attribute [local go_sem] Oper.semAt_some

set_option maxHeartbeats 4000000 in
theorem specGetOk_any (L S : Int) (a1 a2 : Option Addr) (c1 c2 : Nat) (ws gs : List Int) (C Z : Int) (a : Option Addr) (cap : Nat) (es : List EqV) (w : World) (ha1 : IntsAt w a1 ws) (ha2 : IntsAt w a2 gs) (hx : ws.length ≤ 1048576) (hy : gs.length ≤ 1048576) (ha : EqsAt w a es) (hl : es.length ≤ 1048576) (hsm : SmallE es) :
    Calls Tryd.prog 9 #[.agg #[.int .i64 L, .int .i64 S, .slice a1 ws.length c1, .slice a2 gs.length c2, .int .i64 C, .int .i64 Z, .slice a es.length cap]] w fun e w' => e = .returned (.bool (decide (getP L S ws gs C Z es))) ∧ Below w.heap.size w w' := by
  have HA := hid ha
  have HS := hid hsm
  have H1 := hid ha1
  have H2 := hid ha2
  clear ha hsm ha1 ha2
  go_enter Tryd.func9, Tryd.ntmps9
  repeat ((fail_if_success (with_reducible show Code.wp _ (Code.region 1 _ _) _ _ _)); (first | go_values | go_skip | go_guarded | go_step | go_upon | go_back | go_simp))
  obtain ⟨V, hV⟩ : ∃ V, V = w.alloc (.cells #[.int .i64 L, .int .i64 S, .slice a1 ws.length c1, .slice a2 gs.length c2, .int .i64 C, .int .i64 Z, .slice a es.length cap] 37) := ⟨_, rfl⟩
  have B := hid (show Below w.heap.size w V by rw [hV]; exact u_b1 _ _)
  have X : V.heap[w.heap.size]? = some (.cells #[.int .i64 L, .int .i64 S, .slice a1 ws.length c1, .slice a2 gs.length c2, .int .i64 C, .int .i64 Z, .slice a es.length cap] 37 (0, 0)) := by rw [hV]; exact laid _ _ _
  rw [← hV]
  clear hV
  have q0 := cell_regrown (box_cell X 0 (v := .int .i64 L) rfl)
  have q1 := cell_regrown (box_cell X 1 (v := .int .i64 S) rfl)
  have q2 := cell_regrown (box_cell X 2 (v := .slice a1 ws.length c1) rfl)
  have q3 := cell_regrown (box_cell X 3 (v := .slice a2 gs.length c2) rfl)
  have q4 := cell_regrown (box_cell X 4 (v := .int .i64 C) rfl)
  have q5 := cell_regrown (box_cell X 5 (v := .int .i64 Z) rfl)
  have q6 := cell_regrown (box_cell X 6 (v := .slice a es.length cap) rfl)
  have K1 := hid (rg (w := V) (fun w' hb => specPlanOk L S a1 a2 c1 c2 ws gs w' ((H1.out.below B.out).below hb) ((H2.out.below B.out).below hb) (by omega) (by omega)))
  have K2 := hid (rg (w := V) (fun w' hb => specSolverOk_any a cap es C Z w' ((HA.out.below B.out).below hb) HS.out hl))
  clear X
  by_cases hpl : planP L S ws gs
  · rw [decide_eq_true hpl] at K1
    have HPL := hid hpl
    have s1 := hpl.1.1
    have s2 := hpl.1.2.1
    have s3 := hpl.1.2.2.1
    have s4 := hpl.1.2.2.2.1
    have K3 := hid (rg (w := V) (fun w' _ => specCount L S a1 a2 ws.length c1 gs.length c2 w' s1 s2 s3 s4))
    clear hpl s1 s2 s3 s4
    by_cases hp : solverP C Z es
    · rw [decide_eq_true hp] at K2
      have HP := hid hp
      clear hp
      by_cases hc : C = cntI L S
      · have hc1 : (C == cntI L S) = true := by simpa using hc
        have HC := hid hc
        clear hc
        by_cases hz : Z = S
        · have hz1 : (Z == S) = true := by simpa using hz
          have HG := hid (decide_eq_true (show getP L S ws gs C Z es from ⟨HPL.out, HP.out, HC.out, hz⟩))
          clear hz
          refine wp_region_quiet_below (by kernel_rfl) (by kernel_rfl) ?_
          repeat (first | go_big_quiet_step (first | (go_at_call 23; with_reducible exact K1.out _ _) | (go_at_call 24; with_reducible exact K2.out _ _) | (go_at_call 25; with_reducible exact K3.out _ _)) | quiet_step (first | (go_at_call 23; with_reducible exact K1.out _ _) | (go_at_call 24; with_reducible exact K2.out _ _) | (go_at_call 25; with_reducible exact K3.out _ _)))
          refine wpQuiet_nil ?_
          intro V2 hw'
          obtain ⟨⟨dq, osq⟩, hw''⟩ := hw'
          have hbq := below_regrown V dq osq
          rw [← hw''] at hbq
          replace B := hid (u_cat B.out hbq)
          clear hw'' dq osq hbq q0 q1 q2 q3 q4 q5 q6
          go_wp2_with fail
          go_ret
          exact ⟨ret_bool HG.out.symm, B.out⟩
        · have hz1 : (Z == S) = false := by simpa using hz
          have HG := hid (decide_eq_false (show ¬ getP L S ws gs C Z es from fun h => hz h.2.2.2))
          clear hz
          refine wp_region_quiet_below (by kernel_rfl) (by kernel_rfl) ?_
          repeat (first | go_big_quiet_step (first | (go_at_call 23; with_reducible exact K1.out _ _) | (go_at_call 24; with_reducible exact K2.out _ _) | (go_at_call 25; with_reducible exact K3.out _ _)) | quiet_step (first | (go_at_call 23; with_reducible exact K1.out _ _) | (go_at_call 24; with_reducible exact K2.out _ _) | (go_at_call 25; with_reducible exact K3.out _ _)))
          refine wpQuiet_nil ?_
          intro V2 hw'
          obtain ⟨⟨dq, osq⟩, hw''⟩ := hw'
          have hbq := below_regrown V dq osq
          rw [← hw''] at hbq
          replace B := hid (u_cat B.out hbq)
          clear hw'' dq osq hbq q0 q1 q2 q3 q4 q5 q6
          go_wp2_with fail
          go_ret
          exact ⟨ret_bool HG.out.symm, B.out⟩
      · have hc1 : (C == cntI L S) = false := by simpa using hc
        have HG := hid (decide_eq_false (show ¬ getP L S ws gs C Z es from fun h => hc h.2.2.1))
        clear hc
        refine wp_region_quiet_below (by kernel_rfl) (by kernel_rfl) ?_
        repeat (first | go_big_quiet_step (first | (go_at_call 23; with_reducible exact K1.out _ _) | (go_at_call 24; with_reducible exact K2.out _ _) | (go_at_call 25; with_reducible exact K3.out _ _)) | quiet_step (first | (go_at_call 23; with_reducible exact K1.out _ _) | (go_at_call 24; with_reducible exact K2.out _ _) | (go_at_call 25; with_reducible exact K3.out _ _)))
        refine wpQuiet_nil ?_
        intro V2 hw'
        obtain ⟨⟨dq, osq⟩, hw''⟩ := hw'
        have hbq := below_regrown V dq osq
        rw [← hw''] at hbq
        replace B := hid (u_cat B.out hbq)
        clear hw'' dq osq hbq q0 q1 q2 q3 q4 q5 q6
        go_wp2_with fail
        go_ret
        exact ⟨ret_bool HG.out.symm, B.out⟩
    · rw [decide_eq_false hp] at K2
      have HG := hid (decide_eq_false (show ¬ getP L S ws gs C Z es from fun h => hp h.2.1))
      clear hp
      refine wp_region_quiet_below (by kernel_rfl) (by kernel_rfl) ?_
      repeat (first | go_big_quiet_step (first | (go_at_call 23; with_reducible exact K1.out _ _) | (go_at_call 24; with_reducible exact K2.out _ _)) | quiet_step (first | (go_at_call 23; with_reducible exact K1.out _ _) | (go_at_call 24; with_reducible exact K2.out _ _)))
      refine wpQuiet_nil ?_
      intro V2 hw'
      obtain ⟨⟨dq, osq⟩, hw''⟩ := hw'
      have hbq := below_regrown V dq osq
      rw [← hw''] at hbq
      replace B := hid (u_cat B.out hbq)
      clear hw'' dq osq hbq q0 q1 q2 q3 q4 q5 q6
      go_wp2_with fail
      go_ret
      exact ⟨ret_bool HG.out.symm, B.out⟩
  · rw [decide_eq_false hpl] at K1
    have HG := hid (decide_eq_false (show ¬ getP L S ws gs C Z es from fun h => hpl h.1))
    clear hpl
    refine wp_region_quiet_below (by kernel_rfl) (by kernel_rfl) ?_
    repeat (first | go_big_quiet_step ((go_at_call 23; with_reducible exact K1.out _ _)) | quiet_step ((go_at_call 23; with_reducible exact K1.out _ _)))
    refine wpQuiet_nil ?_
    intro V2 hw'
    obtain ⟨⟨dq, osq⟩, hw''⟩ := hw'
    have hbq := below_regrown V dq osq
    rw [← hw''] at hbq
    replace B := hid (u_cat B.out hbq)
    clear hw'' dq osq hbq q0 q1 q2 q3 q4 q5 q6
    go_wp2_with fail
    go_ret
    exact ⟨ret_bool HG.out.symm, B.out⟩

set_option maxHeartbeats 4000000 in
theorem specGetDone_any (L S : Int) (a1 a2 : Option Addr) (c1 c2 : Nat) (ws gs : List Int) (C Z : Int) (a : Option Addr) (cap : Nat) (es : List EqV) (w : World) (ha1 : IntsAt w a1 ws) (ha2 : IntsAt w a2 gs) (hx : ws.length ≤ 1048576) (hy : gs.length ≤ 1048576) (ha : EqsAt w a es) (hl : es.length ≤ 1048576) (hsm : SmallE es) :
    Calls Tryd.prog 17 #[.agg #[.int .i64 L, .int .i64 S, .slice a1 ws.length c1, .slice a2 gs.length c2, .int .i64 C, .int .i64 Z, .slice a es.length cap]] w fun e w' => e = .returned (.bool (decide (getP L S ws gs C Z es ∧ (es.length : Int) = C))) ∧ Below w.heap.size w w' := by
  have HA := hid ha
  have HS := hid hsm
  have H1 := hid ha1
  have H2 := hid ha2
  clear ha hsm ha1 ha2
  go_enter Tryd.func17, Tryd.ntmps17
  repeat ((fail_if_success (with_reducible show Code.wp _ (Code.region 1 _ _) _ _ _)); (first | go_values | go_skip | go_guarded | go_step | go_upon | go_back | go_simp))
  obtain ⟨V, hV⟩ : ∃ V, V = w.alloc (.cells #[.int .i64 L, .int .i64 S, .slice a1 ws.length c1, .slice a2 gs.length c2, .int .i64 C, .int .i64 Z, .slice a es.length cap] 37) := ⟨_, rfl⟩
  have B := hid (show Below w.heap.size w V by rw [hV]; exact u_b1 _ _)
  have X : V.heap[w.heap.size]? = some (.cells #[.int .i64 L, .int .i64 S, .slice a1 ws.length c1, .slice a2 gs.length c2, .int .i64 C, .int .i64 Z, .slice a es.length cap] 37 (0, 0)) := by rw [hV]; exact laid _ _ _
  rw [← hV]
  clear hV
  have q0 := cell_regrown (box_cell X 0 (v := .int .i64 L) rfl)
  have q1 := cell_regrown (box_cell X 1 (v := .int .i64 S) rfl)
  have q2 := cell_regrown (box_cell X 2 (v := .slice a1 ws.length c1) rfl)
  have q3 := cell_regrown (box_cell X 3 (v := .slice a2 gs.length c2) rfl)
  have q4 := cell_regrown (box_cell X 4 (v := .int .i64 C) rfl)
  have q5 := cell_regrown (box_cell X 5 (v := .int .i64 Z) rfl)
  have q6 := cell_regrown (box_cell X 6 (v := .slice a es.length cap) rfl)
  have K1 := hid (rg (w := V) (fun w' hb => specGetOk_any L S a1 a2 c1 c2 ws gs C Z a cap es w' ((H1.out.below B.out).below hb) ((H2.out.below B.out).below hb) hx hy ((HA.out.below B.out).below hb) hl HS.out))
  clear X
  by_cases hg : getP L S ws gs C Z es
  · rw [decide_eq_true hg] at K1
    have s1 := hg.1.1.1
    have s2 := hg.1.1.2.1
    have s3 := hg.1.1.2.2.1
    have s4 := hg.1.1.2.2.2.1
    have HG := hid hg
    have K2 := hid (rg (w := V) (fun w' _ => specCount L S a1 a2 ws.length c1 gs.length c2 w' s1 s2 s3 s4))
    rw [← HG.out.2.2.1] at K2
    have HD := hid (show ((es.length : Int) == C) = decide (getP L S ws gs C Z es ∧ (es.length : Int) = C) by
      rw [Bool.eq_iff_iff, beq_iff_eq, decide_eq_true_eq]
      exact ⟨fun h => ⟨HG.out, h⟩, fun h => h.2⟩)
    clear hg s1 s2 s3 s4
    refine wp_region_quiet_below (by kernel_rfl) (by kernel_rfl) ?_
    repeat (first | go_big_quiet_step (first | (go_at_call 9; with_reducible exact K1.out _ _) | (go_at_call 25; with_reducible exact K2.out _ _)) | quiet_step (first | (go_at_call 9; with_reducible exact K1.out _ _) | (go_at_call 25; with_reducible exact K2.out _ _)))
    refine wpQuiet_nil ?_
    intro V2 hw'
    obtain ⟨⟨dq, osq⟩, hw''⟩ := hw'
    have hbq := below_regrown V dq osq
    rw [← hw''] at hbq
    replace B := hid (u_cat B.out hbq)
    clear hw'' dq osq hbq q0 q1 q2 q3 q4 q5 q6
    go_wp2_with fail
    go_ret
    exact ⟨ret_bool HD.out, B.out⟩
  · rw [decide_eq_false hg] at K1
    have HG := hid (show decide (getP L S ws gs C Z es ∧ (es.length : Int) = C) = false from decide_eq_false (fun h => hg h.1))
    clear hg
    refine wp_region_quiet_below (by kernel_rfl) (by kernel_rfl) ?_
    repeat (first | go_big_quiet_step ((go_at_call 9; with_reducible exact K1.out _ _)) | quiet_step ((go_at_call 9; with_reducible exact K1.out _ _)))
    refine wpQuiet_nil ?_
    intro V2 hw'
    obtain ⟨⟨dq, osq⟩, hw''⟩ := hw'
    have hbq := below_regrown V dq osq
    rw [← hw''] at hbq
    replace B := hid (u_cat B.out hbq)
    clear hw'' dq osq hbq q0 q1 q2 q3 q4 q5 q6
    go_wp2_with fail
    go_ret
    exact ⟨ret_bool HG.out.symm, B.out⟩

set_option maxHeartbeats 4000000 in
theorem l6Windows_in (L S : Int) (a1 a2 : Option Addr) (c1 c2 : Nat) (ws gs : List Int) (C Z : Int) (a : Option Addr) (cap : Nat) (es : List EqV) (w : World) (ha1 : IntsAt w a1 ws) (ha : EqsAt w a es) (hl : es.length ≤ 1048576) (hsm : SmallE es) (hg : getP L S ws gs C Z es) :
    Calls Tryd.prog 31 #[.agg #[.int .i64 L, .int .i64 S, .slice a1 ws.length c1, .slice a2 gs.length c2, .int .i64 C, .int .i64 Z, .slice a es.length cap]] w fun e w' => e = .returned (.int .i64 (winsOf L S ws gs C Z es)) ∧ Below w.heap.size w w' := by
  have HA := hid ha
  have HS := hid hsm
  have H1 := hid ha1
  have HG := hid hg
  have HW := hid (show winsOf L S ws gs C Z es = cntW ws (pfx 0 (es.map EqV.r)) ws.length from if_pos hg)
  have hw3 : ws.length ≤ 3 := hg.1.2.1.2.1
  have HU := hid (up_le hg.1.2.1.2.2.1)
  clear ha hsm ha1 hg
  go_enter Tryd.func31, Tryd.ntmps31
  repeat ((fail_if_success (with_reducible show Code.wp _ (Code.region 2 _ _) _ _ _)); (first | go_values | go_skip | go_guarded | go_step | go_upon | go_back | go_simp))
  obtain ⟨V, hV⟩ : ∃ V, V = w.alloc (.cells #[.int .i64 L, .int .i64 S, .slice a1 ws.length c1, .slice a2 gs.length c2, .int .i64 C, .int .i64 Z, .slice a es.length cap] 37) := ⟨_, rfl⟩
  have B := hid (show Below w.heap.size w V by rw [hV]; exact u_b1 _ _)
  have X := hid (show V.heap[w.heap.size]? = some (.cells #[.int .i64 L, .int .i64 S, .slice a1 ws.length c1, .slice a2 gs.length c2, .int .i64 C, .int .i64 Z, .slice a es.length cap] 37 (0, 0)) by rw [hV]; exact laid _ _ _)
  rw [← hV]
  clear hV
  have q4 := box_cell X.out 4 (v := .int .i64 C) rfl
  have q5 := box_cell X.out 5 (v := .int .i64 Z) rfl
  have q6 := box_cell X.out 6 (v := .slice a es.length cap) rfl
  have K := hid (l3Prefix_any a cap es C Z V (HA.out.below B.out) HS.out hl HG.out.2.1.2)
  go_wp2_with fail
  refine K.out.mono ?_
  rintro e w2 ⟨rfl, bb⟩
  replace X := hid (kept X.out bb)
  replace B := hid (u_cat B.out bb)
  have I1 := hid (H1.out.below B.out)
  clear bb q4 q5 q6 K
  obtain ⟨P, hP⟩ : ∃ P, P = pfx 0 (es.map EqV.r) := ⟨_, rfl⟩
  rw [← hP] at HW ⊢
  clear hP
  go_wp2_with fail
  go_loop [3] (fun n => ∃ k : Nat, k ≤ ws.length ∧ n = .int .i64 k ∧ ∀ j, j < k → ws.getD j 0 ≤ P) (fun n => ws.length - (intOf n).toNat)
  case atStart => exact ⟨0, Nat.zero_le _, rfl, fun j hj => by omega⟩
  case round =>
    obtain ⟨k, hk, rfl, hall⟩ := hrel
    have HL := hid hall
    clear hall
    have q2 := box_cell X.out 2 (v := .slice a1 ws.length c1) rfl
    by_cases hlt : k < ws.length
    · obtain ⟨b, off, rfl, hc⟩ := I1.out (by intro h; simp [h] at hlt)
      have hc0 := hc k hlt
      have hk1 : decide ((k : Int) < ws.length) = true := by simp; omega
      have HX0 := hid (show ∀ x, x = ws.getD k 0 → (ws.getD k 0 = x) from fun _ h => h.symm)
      obtain ⟨x, hx0⟩ : ∃ x, x = ws.getD k 0 := ⟨_, rfl⟩
      rw [← hx0] at hc0
      have HXE := hid hx0
      clear hc hx0 HX0
      by_cases hxp : x ≤ P
      · have hxp1 : decide (x ≤ (P : Int)) = true := by simpa using hxp
        go_wp2_with fail
        go_round
        case rel => exact ⟨k + 1, by omega, by go_num, fun j hj => by
          rcases Nat.lt_or_ge j k with h | h
          · exact HL.out j h
          · obtain rfl : j = k := by omega
            rw [← HXE.out]; exact hxp⟩
        case measure => simp [intOf]; omega
      · have hxp1 : decide (x ≤ (P : Int)) = false := by simpa using hxp
        have HE := hid (show cntW ws P ws.length = k from cntW_end (by omega) HL.out (fun _ => by rw [← HXE.out]; omega) HU.out)
        rw [HE.out] at HW
        go_wp2_with fail
        go_ret
        exact ⟨ret_int HW.out.symm, B.out⟩
    · obtain rfl : k = ws.length := by omega
      have HE := hid (show cntW ws P ws.length = ws.length from cntW_end (by omega) HL.out (fun h => by omega) HU.out)
      rw [HE.out] at HW
      have hk1 : decide ((ws.length : Int) < ws.length) = false := by simp
      go_wp2_with fail
      go_ret
      exact ⟨ret_int HW.out.symm, B.out⟩

set_option maxHeartbeats 4000000 in
theorem specGetWindows_any (L S : Int) (a1 a2 : Option Addr) (c1 c2 : Nat) (ws gs : List Int) (C Z : Int) (a : Option Addr) (cap : Nat) (es : List EqV) (w : World) (ha1 : IntsAt w a1 ws) (ha2 : IntsAt w a2 gs) (hx : ws.length ≤ 1048576) (hy : gs.length ≤ 1048576) (ha : EqsAt w a es) (hl : es.length ≤ 1048576) (hsm : SmallE es) :
    Calls Tryd.prog 13 #[.agg #[.int .i64 L, .int .i64 S, .slice a1 ws.length c1, .slice a2 gs.length c2, .int .i64 C, .int .i64 Z, .slice a es.length cap]] w fun e w' => e = .returned (.int .i64 (winsOf L S ws gs C Z es)) ∧ Below w.heap.size w w' := by
  have HA := hid ha
  have HS := hid hsm
  have H1 := hid ha1
  have H2 := hid ha2
  clear ha hsm ha1 ha2
  have B0 := hid (u_b1 w (.cells #[.int .i64 L, .int .i64 S, .slice a1 ws.length c1, .slice a2 gs.length c2, .int .i64 C, .int .i64 Z, .slice a es.length cap] 37))
  have X0 := hid (laid w #[.int .i64 L, .int .i64 S, .slice a1 ws.length c1, .slice a2 gs.length c2, .int .i64 C, .int .i64 Z, .slice a es.length cap] 37)
  go_enter Tryd.func13, Tryd.ntmps13
  go_wp2_with fail
  refine (specGetOk_any L S a1 a2 c1 c2 ws gs C Z a cap es _ (H1.out.below B0.out) (H2.out.below B0.out) hx hy (HA.out.below B0.out) hl HS.out).mono ?_
  rintro e w1 ⟨rfl, bb⟩
  have X := hid (kept X0.out bb)
  have B := hid (u_cat B0.out bb)
  clear bb X0 B0
  by_cases hg : getP L S ws gs C Z es
  · rw [decide_eq_true hg]
    have HG := hid hg
    have q0 := box_cell X.out 0 (v := .int .i64 L) rfl
    have q1 := box_cell X.out 1 (v := .int .i64 S) rfl
    have q2 := box_cell X.out 2 (v := .slice a1 ws.length c1) rfl
    have q3 := box_cell X.out 3 (v := .slice a2 gs.length c2) rfl
    have q4 := box_cell X.out 4 (v := .int .i64 C) rfl
    have q5 := box_cell X.out 5 (v := .int .i64 Z) rfl
    have q6 := box_cell X.out 6 (v := .slice a es.length cap) rfl
    clear hg
    go_wp2_with fail
    refine (l6Windows_in L S a1 a2 c1 c2 ws gs C Z a cap es _ (H1.out.below B.out) (HA.out.below B.out) hl HS.out HG.out).mono ?_
    rintro e w2 ⟨rfl, bb⟩
    replace B := hid (u_cat B.out bb)
    clear bb q0 q1 q2 q3 q4 q5 q6
    go_wp2_with fail
    go_ret
    exact ⟨rfl, B.out⟩
  · rw [decide_eq_false hg]
    have HW := hid (show winsOf L S ws gs C Z es = 0 from if_neg hg)
    clear hg
    go_wp2_with fail
    go_ret
    exact ⟨ret_int HW.out.symm, B.out⟩
end Go.Proofs.YtegldmdcdnnegaaDoor
