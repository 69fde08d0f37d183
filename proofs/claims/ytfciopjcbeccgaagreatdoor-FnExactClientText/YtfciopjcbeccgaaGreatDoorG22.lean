/- Plans: what is ok by the model, all plans. Gettings that are ok, how many windows are known, whether all is: by the model. A list of a solver, ok or not; links of one block. -/
import Derived.Test.YtfciopjcbeccgaaGreatDoorG21
import Derived.Test.YtfciopjcbeccgaaGreatDoorG17
import Derived.Test.YtfciopjcbeccgaaGreatDoorG20
import Derived.Test.YtfciopjcbeccgaaGreatDoorG14
import Derived.Test.YtfciopjcbeccgaaGreatDoorG13
namespace Go.Proofs.YtfciopjcbeccgaaGreatDoor
open Go.ChangeShapes Go.WideShapes Go.ChangeAt Go.RowKit Go.Sort

set_option maxRecDepth 100000 in
set_option maxHeartbeats 2000000 in
theorem specPlanOk (long size : Int) (a1 a2 : Option Addr) (c1 c2 : Nat) (ws gs : List Int) (w : World) (ha1 : IntsAt w a1 ws) (ha2 : IntsAt w a2 gs) (_hx : ws.length ≤ 1152921504606846976) (_hy : gs.length ≤ 1152921504606846976) :
    Calls Tryz.prog 41 #[.agg #[.int .i64 long, .int .i64 size, .slice a1 ws.length c1, .slice a2 gs.length c2]] w fun e w' => e = .returned (.bool (decide (planP long size ws gs))) ∧ Below w.heap.size w w' := by
  by_cases g1 : 1 ≤ long ∧ long ≤ 300
  · obtain ⟨l1, l2⟩ := g1
    by_cases g2 : 1 ≤ size ∧ size ≤ 16
    · obtain ⟨l3, l4⟩ := g2
      have hN := cnt_pos long size l1 l3
      by_cases l5 : cntI long size ≤ 24
      · by_cases g3 : 1 ≤ ws.length ∧ ws.length ≤ 3
        · by_cases l8 : gs.length = ws.length
          · exact specPlan_in long size a1 a2 c1 c2 ws gs w ha1 ha2 l1 l2 l3 l4 l5 g3.1 g3.2 l8
          · have H := hid (show decide (planP long size ws gs) = false from decide_eq_false (by rintro ⟨_, _, _, p⟩; exact l8 p))
            have l8' : ((gs.length : Int) != (ws.length : Int)) = true := by rw [bne_iff_ne]; omega
            obtain ⟨g4, g5⟩ := g3
            clear l8 ha1 ha2
            go_enter Tryz.func41, Tryz.ntmps41
            go_wp2_with (first
              | (go_at_call 43; refine (specCount long size _ _ _ _ _ _ _ l1 l2 l3 l4).mono ?_; rintro e w1 ⟨rfl, hb1⟩; obtain ⟨hc1, hf1⟩ := bcell hb1)
              | (go_at_call 18; refine (l1In_yes _ _ _ _ (by omega)).mono ?_; rintro e w2 ⟨rfl, rfl⟩))
            go_ret
            exact ⟨ret_bool H.out.symm, below_cat' (below_alloc' _ _) hb1⟩
        · have H := hid (show decide (planP long size ws gs) = false from decide_eq_false (by rintro ⟨_, ⟨p1, p2, _⟩, _⟩; omega))
          clear ha1 ha2
          go_enter Tryz.func41, Tryz.ntmps41
          go_wp2_with (first
            | (go_at_call 43; refine (specCount long size _ _ _ _ _ _ _ l1 l2 l3 l4).mono ?_; rintro e w1 ⟨rfl, hb1⟩; obtain ⟨hc1, hf1⟩ := bcell hb1)
            | (go_at_call_of 18 (Value.int .i64 (ws.length : Int)); refine (l1In_no _ _ _ _ (by omega)).mono ?_; rintro e w2 ⟨rfl, rfl⟩)
            | (go_at_call 18; refine (l1In_yes _ _ _ _ (by omega)).mono ?_; rintro e w2 ⟨rfl, rfl⟩))
          go_ret
          exact ⟨ret_bool H.out.symm, below_cat' (below_alloc' _ _) hb1⟩
      · have H := hid (show decide (planP long size ws gs) = false from decide_eq_false (by rintro ⟨⟨_, _, _, _, p⟩, _⟩; omega))
        clear ha1 ha2
        go_enter Tryz.func41, Tryz.ntmps41
        go_wp2_with (first
          | (go_at_call 43; refine (specCount long size _ _ _ _ _ _ _ l1 l2 l3 l4).mono ?_; rintro e w1 ⟨rfl, hb1⟩; obtain ⟨hc1, hf1⟩ := bcell hb1)
          | (go_at_call_of 18 (Value.int .i64 (cntI long size)); refine (l1In_no _ _ _ _ (by omega)).mono ?_; rintro e w2 ⟨rfl, rfl⟩)
          | (go_at_call 18; refine (l1In_yes _ _ _ _ (by omega)).mono ?_; rintro e w2 ⟨rfl, rfl⟩))
        go_ret
        exact ⟨ret_bool H.out.symm, below_cat' (below_alloc' _ _) hb1⟩
    · have H := hid (show decide (planP long size ws gs) = false from decide_eq_false (by rintro ⟨⟨_, _, p1, p2, _⟩, _⟩; omega))
      clear ha1 ha2
      go_enter Tryz.func41, Tryz.ntmps41
      go_wp2_with fail
      refine (l1In_yes _ _ _ _ (by omega)).mono ?_
      rintro e w2 ⟨rfl, rfl⟩
      go_wp2_with fail
      refine (l1In_no _ _ _ _ (by omega)).mono ?_
      rintro e w2 ⟨rfl, rfl⟩
      go_wp2_with fail
      go_ret
      exact ⟨ret_bool H.out.symm, below_alloc' _ _⟩
  · have H := hid (show decide (planP long size ws gs) = false from decide_eq_false (by rintro ⟨⟨p1, p2, _⟩, _⟩; omega))
    clear ha1 ha2
    go_enter Tryz.func41, Tryz.ntmps41
    go_wp2_with fail
    refine (l1In_no _ _ _ _ (by omega)).mono ?_
    rintro e w2 ⟨rfl, rfl⟩
    go_wp2_with fail
    go_ret
    exact ⟨ret_bool H.out.symm, below_alloc' _ _⟩
end Go.Proofs.YtfciopjcbeccgaaGreatDoor
namespace Go.Proofs.YtfciopjcbeccgaaGreatDoor
open Go.ChangeShapes Go.WideShapes Go.ChangeAt Go.RowKit Go.Sort Go.Shelf
attribute [local go_sem] Oper.semAt_some

set_option maxRecDepth 100000 in
set_option maxHeartbeats 4000000 in
theorem specGetOk_any (L S : Int) (a1 a2 : Option Addr) (c1 c2 : Nat) (ws gs : List Int) (C Z : Int) (a : Option Addr) (cap : Nat) (es : List EqV) (w : World) (ha1 : IntsAt w a1 ws) (ha2 : IntsAt w a2 gs) (hx : ws.length ≤ 1048576) (hy : gs.length ≤ 1048576) (ha : EqsAt w a es) (hl : es.length ≤ 1048576) (hsm : SmallE es) :
    Calls Tryz.prog 20 #[.agg #[.int .i64 L, .int .i64 S, .slice a1 ws.length c1, .slice a2 gs.length c2, .int .i64 C, .int .i64 Z, .slice a es.length cap]] w fun e w' => e = .returned (.bool (decide (getP L S ws gs C Z es))) ∧ Below w.heap.size w w' := by
  have HA := hid ha
  have HS := hid hsm
  have H1 := hid ha1
  have H2 := hid ha2
  clear ha hsm ha1 ha2
  go_enter Tryz.func20, Tryz.ntmps20
  repeat ((fail_if_success (with_reducible show Code.wp _ (Code.region 1 _ _) _ _ _)); (first | go_values | go_skip | go_guarded | go_step | go_upon | go_back | go_simp))
  obtain ⟨V, hV⟩ : ∃ V, V = w.alloc (.cells #[.int .i64 L, .int .i64 S, .slice a1 ws.length c1, .slice a2 gs.length c2, .int .i64 C, .int .i64 Z, .slice a es.length cap] 39) := ⟨_, rfl⟩
  have B := hid (show Below w.heap.size w V by rw [hV]; exact u_b1 _ _)
  have X : V.heap[w.heap.size]? = some (.cells #[.int .i64 L, .int .i64 S, .slice a1 ws.length c1, .slice a2 gs.length c2, .int .i64 C, .int .i64 Z, .slice a es.length cap] 39 (0, 0)) := by rw [hV]; exact laid _ _ _
  rw [← hV]
  clear hV
  have q0 := cell_regrown (box_cell X 0 (v := .int .i64 L) rfl)
  have q1 := cell_regrown (box_cell X 1 (v := .int .i64 S) rfl)
  have q2 := cell_regrown (box_cell X 2 (v := .slice a1 ws.length c1) rfl)
  have q3 := cell_regrown (box_cell X 3 (v := .slice a2 gs.length c2) rfl)
  have q4 := cell_regrown (box_cell X 4 (v := .int .i64 C) rfl)
  have q5 := cell_regrown (box_cell X 5 (v := .int .i64 Z) rfl)
  have q6 := cell_regrown (box_cell X 6 (v := .slice a es.length cap) rfl)
  have K1 := hid (rg (w := V) (fun w' hb => specPlanOk L S a1 a2 c1 c2 ws gs w' ((H1.out.below B.out).below hb) ((H2.out.below B.out).below hb) (by omega) (by omega)))
  have K2 := hid (rg (w := V) (fun w' hb => specSolverOk_any a cap es C Z w' ((HA.out.below B.out).below hb) HS.out hl))
  clear X
  by_cases hpl : planP L S ws gs
  · rw [decide_eq_true hpl] at K1
    have HPL := hid hpl
    have s1 := hpl.1.1
    have s2 := hpl.1.2.1
    have s3 := hpl.1.2.2.1
    have s4 := hpl.1.2.2.2.1
    have K3 := hid (rg (w := V) (fun w' _ => specCount L S a1 a2 ws.length c1 gs.length c2 w' s1 s2 s3 s4))
    clear hpl s1 s2 s3 s4
    by_cases hp : solverP C Z es
    · rw [decide_eq_true hp] at K2
      have HP := hid hp
      clear hp
      by_cases hc : C = cntI L S
      · have hc1 : (C == cntI L S) = true := by simpa using hc
        have HC := hid hc
        clear hc
        by_cases hz : Z = S
        · have hz1 : (Z == S) = true := by simpa using hz
          have HG := hid (decide_eq_true (show getP L S ws gs C Z es from ⟨HPL.out, HP.out, HC.out, hz⟩))
          clear hz
          refine wp_region_quiet_below (by kernel_rfl) (by kernel_rfl) ?_
          repeat (first | go_big_quiet_step (first | (go_at_call 41; with_reducible exact K1.out _ _) | (go_at_call 42; with_reducible exact K2.out _ _) | (go_at_call 43; with_reducible exact K3.out _ _)) | quiet_step (first | (go_at_call 41; with_reducible exact K1.out _ _) | (go_at_call 42; with_reducible exact K2.out _ _) | (go_at_call 43; with_reducible exact K3.out _ _)))
          refine wpQuiet_nil ?_
          intro V2 hw'
          obtain ⟨⟨dq, osq⟩, hw''⟩ := hw'
          have hbq := below_regrown V dq osq
          rw [← hw''] at hbq
          replace B := hid (u_cat B.out hbq)
          clear hw'' dq osq hbq q0 q1 q2 q3 q4 q5 q6
          go_wp2_with fail
          go_ret
          exact ⟨ret_bool HG.out.symm, B.out⟩
        · have hz1 : (Z == S) = false := by simpa using hz
          have HG := hid (decide_eq_false (show ¬ getP L S ws gs C Z es from fun h => hz h.2.2.2))
          clear hz
          refine wp_region_quiet_below (by kernel_rfl) (by kernel_rfl) ?_
          repeat (first | go_big_quiet_step (first | (go_at_call 41; with_reducible exact K1.out _ _) | (go_at_call 42; with_reducible exact K2.out _ _) | (go_at_call 43; with_reducible exact K3.out _ _)) | quiet_step (first | (go_at_call 41; with_reducible exact K1.out _ _) | (go_at_call 42; with_reducible exact K2.out _ _) | (go_at_call 43; with_reducible exact K3.out _ _)))
          refine wpQuiet_nil ?_
          intro V2 hw'
          obtain ⟨⟨dq, osq⟩, hw''⟩ := hw'
          have hbq := below_regrown V dq osq
          rw [← hw''] at hbq
          replace B := hid (u_cat B.out hbq)
          clear hw'' dq osq hbq q0 q1 q2 q3 q4 q5 q6
          go_wp2_with fail
          go_ret
          exact ⟨ret_bool HG.out.symm, B.out⟩
      · have hc1 : (C == cntI L S) = false := by simpa using hc
        have HG := hid (decide_eq_false (show ¬ getP L S ws gs C Z es from fun h => hc h.2.2.1))
        clear hc
        refine wp_region_quiet_below (by kernel_rfl) (by kernel_rfl) ?_
        repeat (first | go_big_quiet_step (first | (go_at_call 41; with_reducible exact K1.out _ _) | (go_at_call 42; with_reducible exact K2.out _ _) | (go_at_call 43; with_reducible exact K3.out _ _)) | quiet_step (first | (go_at_call 41; with_reducible exact K1.out _ _) | (go_at_call 42; with_reducible exact K2.out _ _) | (go_at_call 43; with_reducible exact K3.out _ _)))
        refine wpQuiet_nil ?_
        intro V2 hw'
        obtain ⟨⟨dq, osq⟩, hw''⟩ := hw'
        have hbq := below_regrown V dq osq
        rw [← hw''] at hbq
        replace B := hid (u_cat B.out hbq)
        clear hw'' dq osq hbq q0 q1 q2 q3 q4 q5 q6
        go_wp2_with fail
        go_ret
        exact ⟨ret_bool HG.out.symm, B.out⟩
    · rw [decide_eq_false hp] at K2
      have HG := hid (decide_eq_false (show ¬ getP L S ws gs C Z es from fun h => hp h.2.1))
      clear hp
      refine wp_region_quiet_below (by kernel_rfl) (by kernel_rfl) ?_
      repeat (first | go_big_quiet_step (first | (go_at_call 41; with_reducible exact K1.out _ _) | (go_at_call 42; with_reducible exact K2.out _ _)) | quiet_step (first | (go_at_call 41; with_reducible exact K1.out _ _) | (go_at_call 42; with_reducible exact K2.out _ _)))
      refine wpQuiet_nil ?_
      intro V2 hw'
      obtain ⟨⟨dq, osq⟩, hw''⟩ := hw'
      have hbq := below_regrown V dq osq
      rw [← hw''] at hbq
      replace B := hid (u_cat B.out hbq)
      clear hw'' dq osq hbq q0 q1 q2 q3 q4 q5 q6
      go_wp2_with fail
      go_ret
      exact ⟨ret_bool HG.out.symm, B.out⟩
  · rw [decide_eq_false hpl] at K1
    have HG := hid (decide_eq_false (show ¬ getP L S ws gs C Z es from fun h => hpl h.1))
    clear hpl
    refine wp_region_quiet_below (by kernel_rfl) (by kernel_rfl) ?_
    repeat (first | go_big_quiet_step ((go_at_call 41; with_reducible exact K1.out _ _)) | quiet_step ((go_at_call 41; with_reducible exact K1.out _ _)))
    refine wpQuiet_nil ?_
    intro V2 hw'
    obtain ⟨⟨dq, osq⟩, hw''⟩ := hw'
    have hbq := below_regrown V dq osq
    rw [← hw''] at hbq
    replace B := hid (u_cat B.out hbq)
    clear hw'' dq osq hbq q0 q1 q2 q3 q4 q5 q6
    go_wp2_with fail
    go_ret
    exact ⟨ret_bool HG.out.symm, B.out⟩
end Go.Proofs.YtfciopjcbeccgaaGreatDoor
namespace Go.Proofs.YtfciopjcbeccgaaGreatDoor
open Go.ChangeShapes Go.WideShapes Go.ChangeAt Go.RowKit Go.Sort Go.Shelf
attribute [local go_sem] Oper.semAt_some

set_option maxRecDepth 100000 in
set_option maxHeartbeats 1000000 in
theorem isBlock_any (b : Nat) (r : List Int) (at' : Int) (w : World) (hb : w.cell? ⟨b, 0, none⟩ = some (.int .u32 (setI r : Nat))) (hr : ascB (-1) 24 r = true) (hne : r ≠ []) (hT : Tab w) :
    Calls Tryz.prog 53 #[.pointer (some ⟨b, 0, none⟩), .int .i64 at'] w fun e w' => e = .returned (.bool (decide (r = [at']))) ∧ Dr w w' := by
  have HT := hid hT
  have K1 := hid (sizeS hr)
  have K2 := hid (firstS hr hne)
  have HD := hid (show decide (r = [at']) = decide (r.length = 1 ∧ hd r = at') from by rw [decide_eq_decide]; exact (one_row r at').symm)
  by_cases h1 : r.length = 1
  · have e1 : ((r.length : Int) == 1) = true := by simp [h1]
    by_cases h2 : hd r = at'
    · have e2 : (hd r == at') = true := by simp [h2]
      have HF := hid (show decide (r = [at']) = true by rw [HD.out]; exact decide_eq_true ⟨h1, h2⟩)
      clear h1 h2 hr hne hT HD
      generalize hd r = F at K2 e2
      generalize r.length = L at K1 e1
      generalize setI r = s at K1 K2 hb
      go_enter Tryz.func53, Tryz.ntmps53
      go_wp2_with (go_at_call 70; refine (K1.out _).mono ?_; rintro e w1 ⟨rfl, d1⟩; have hb1 := (d1.cell _).trans hb; have D1 := hid d1; clear d1 hb)
      refine (K2.out _ (HT.out.below (D1.out.below _))).mono ?_
      rintro e w2 ⟨rfl, hw⟩; replace hw := hw.symm; subst hw
      go_wp2_with fail
      go_ret
      exact ⟨ret_bool HF.out.symm, D1.out⟩
    · have e2 : (hd r == at') = false := by simp [h2]
      have HF := hid (show decide (r = [at']) = false by rw [HD.out]; exact decide_eq_false (fun h => h2 h.2))
      clear h1 h2 hr hne hT HD
      generalize hd r = F at K2 e2
      generalize r.length = L at K1 e1
      generalize setI r = s at K1 K2 hb
      go_enter Tryz.func53, Tryz.ntmps53
      go_wp2_with (go_at_call 70; refine (K1.out _).mono ?_; rintro e w1 ⟨rfl, d1⟩; have hb1 := (d1.cell _).trans hb; have D1 := hid d1; clear d1 hb)
      refine (K2.out _ (HT.out.below (D1.out.below _))).mono ?_
      rintro e w2 ⟨rfl, hw⟩; replace hw := hw.symm; subst hw
      go_wp2_with fail
      go_ret
      exact ⟨ret_bool HF.out.symm, D1.out⟩
  · have e1 : ((r.length : Int) == 1) = false := by simp; omega
    have HF := hid (show decide (r = [at']) = false by rw [HD.out]; exact decide_eq_false (fun h => h1 h.1))
    clear h1 hr hne hT HD
    generalize hd r = F at K2
    generalize r.length = L at K1 e1
    generalize setI r = s at K1 K2 hb
    go_enter Tryz.func53, Tryz.ntmps53
    go_wp2_with (go_at_call 70; refine (K1.out _).mono ?_; rintro e w1 ⟨rfl, d1⟩; have hb1 := (d1.cell _).trans hb; have D1 := hid d1; clear d1 hb)
    go_ret
    exact ⟨ret_bool HF.out.symm, D1.out⟩
end Go.Proofs.YtfciopjcbeccgaaGreatDoor
