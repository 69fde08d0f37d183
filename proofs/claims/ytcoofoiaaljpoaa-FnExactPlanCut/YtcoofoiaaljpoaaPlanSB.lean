/- Plans: what is ok by the model, all plans. -/
import Derived.Test.YtcoofoiaaljpoaaPlanS
namespace Go.Proofs.Ytcoofoiaaljpoaa
open Go.ChangeShapes Go.WideShapes Go.ChangeAt Go.RowKit Go.Sort

set_option maxRecDepth 100000 in
set_option maxHeartbeats 2000000 in
theorem specPlanOk (long size : Int) (a1 a2 : Option Addr) (c1 c2 : Nat) (ws gs : List Int) (w : World) (ha1 : IntsAt w a1 ws) (ha2 : IntsAt w a2 gs) (_hx : ws.length ≤ 1152921504606846976) (_hy : gs.length ≤ 1152921504606846976) :
    Calls Try.prog 14 #[.agg #[.int .i64 long, .int .i64 size, .slice a1 ws.length c1, .slice a2 gs.length c2]] w fun e w' => e = .returned (.bool (decide (planP long size ws gs))) ∧ Below w.heap.size w w' := by
  by_cases g1 : 1 ≤ long ∧ long ≤ 300
  · obtain ⟨l1, l2⟩ := g1
    by_cases g2 : 1 ≤ size ∧ size ≤ 16
    · obtain ⟨l3, l4⟩ := g2
      have hN := cnt_pos long size l1 l3
      by_cases l5 : cntI long size ≤ 24
      · by_cases g3 : 1 ≤ ws.length ∧ ws.length ≤ 3
        · by_cases l8 : gs.length = ws.length
          · exact specPlan_in long size a1 a2 c1 c2 ws gs w ha1 ha2 l1 l2 l3 l4 l5 g3.1 g3.2 l8
          · have H := hid (show decide (planP long size ws gs) = false from decide_eq_false (by rintro ⟨_, _, _, p⟩; exact l8 p))
            have l8' : ((gs.length : Int) != (ws.length : Int)) = true := by rw [bne_iff_ne]; omega
            obtain ⟨g4, g5⟩ := g3
            clear l8 ha1 ha2
            go_enter Try.func14, Try.ntmps14
            go_wp2_with (first
              | (go_at_call 24; refine (specCount long size _ _ _ _ _ _ _ l1 l2 l3 l4).mono ?_; rintro e w1 ⟨rfl, hb1⟩; obtain ⟨hc1, hf1⟩ := bcell hb1)
              | (go_at_call 23; refine (l1In_yes _ _ _ _ (by omega)).mono ?_; rintro e w2 ⟨rfl, rfl⟩))
            go_ret
            exact ⟨ret_bool H.out.symm, below_cat' (below_alloc' _ _) hb1⟩
        · have H := hid (show decide (planP long size ws gs) = false from decide_eq_false (by rintro ⟨_, ⟨p1, p2, _⟩, _⟩; omega))
          clear ha1 ha2
          go_enter Try.func14, Try.ntmps14
          go_wp2_with (first
            | (go_at_call 24; refine (specCount long size _ _ _ _ _ _ _ l1 l2 l3 l4).mono ?_; rintro e w1 ⟨rfl, hb1⟩; obtain ⟨hc1, hf1⟩ := bcell hb1)
            | (go_at_call_of 23 (Value.int .i64 (ws.length : Int)); refine (l1In_no _ _ _ _ (by omega)).mono ?_; rintro e w2 ⟨rfl, rfl⟩)
            | (go_at_call 23; refine (l1In_yes _ _ _ _ (by omega)).mono ?_; rintro e w2 ⟨rfl, rfl⟩))
          go_ret
          exact ⟨ret_bool H.out.symm, below_cat' (below_alloc' _ _) hb1⟩
      · have H := hid (show decide (planP long size ws gs) = false from decide_eq_false (by rintro ⟨⟨_, _, _, _, p⟩, _⟩; omega))
        clear ha1 ha2
        go_enter Try.func14, Try.ntmps14
        go_wp2_with (first
          | (go_at_call 24; refine (specCount long size _ _ _ _ _ _ _ l1 l2 l3 l4).mono ?_; rintro e w1 ⟨rfl, hb1⟩; obtain ⟨hc1, hf1⟩ := bcell hb1)
          | (go_at_call_of 23 (Value.int .i64 (cntI long size)); refine (l1In_no _ _ _ _ (by omega)).mono ?_; rintro e w2 ⟨rfl, rfl⟩)
          | (go_at_call 23; refine (l1In_yes _ _ _ _ (by omega)).mono ?_; rintro e w2 ⟨rfl, rfl⟩))
        go_ret
        exact ⟨ret_bool H.out.symm, below_cat' (below_alloc' _ _) hb1⟩
    · have H := hid (show decide (planP long size ws gs) = false from decide_eq_false (by rintro ⟨⟨_, _, p1, p2, _⟩, _⟩; omega))
      clear ha1 ha2
      go_enter Try.func14, Try.ntmps14
      go_wp2_with fail
      refine (l1In_yes _ _ _ _ (by omega)).mono ?_
      rintro e w2 ⟨rfl, rfl⟩
      go_wp2_with fail
      refine (l1In_no _ _ _ _ (by omega)).mono ?_
      rintro e w2 ⟨rfl, rfl⟩
      go_wp2_with fail
      go_ret
      exact ⟨ret_bool H.out.symm, below_alloc' _ _⟩
  · have H := hid (show decide (planP long size ws gs) = false from decide_eq_false (by rintro ⟨⟨p1, p2, _⟩, _⟩; omega))
    clear ha1 ha2
    go_enter Try.func14, Try.ntmps14
    go_wp2_with fail
    refine (l1In_no _ _ _ _ (by omega)).mono ?_
    rintro e w2 ⟨rfl, rfl⟩
    go_wp2_with fail
    go_ret
    exact ⟨ret_bool H.out.symm, below_alloc' _ _⟩
end Go.Proofs.Ytcoofoiaaljpoaa
