/- The small tests of a client that is ok. -/
import Derived.Test.YtbakicgdloakgaaGreatDoorG1
import Derived.Test.YtbakicgdloakgaaGreatDoorG0
import Derived.Test.YtbakicgdloakgaaGreatDoorG9
namespace Go.Proofs.YtbakicgdloakgaaGreatDoor
open Go.ChangeShapes Go.WideShapes Go.ChangeAt Go.RowKit

/-- Nothing is known. -/
def nonP (L S : Int) (n1 n2 : Nat) (C Z : Int) (n3 : Nat) : Prop := L = 0 ∧ S = 0 ∧ n1 = 0 ∧ n2 = 0 ∧ C = 0 ∧ Z = 0 ∧ n3 = 0
instance (L S : Int) (n1 n2 : Nat) (C Z : Int) (n3 : Nat) : Decidable (nonP L S n1 n2 C Z n3) := by unfold nonP; infer_instance

set_option maxHeartbeats 4000000 in
set_option maxRecDepth 100000 in
theorem l13None_any (i t s : Int) (nm : ByteArray) (ed L S : Int) (p1 p2 p3 : Option Addr) (n1 n2 n3 f1 f2 f3 : Nat) (C Z : Int) (w : World) :
    Calls Tryz.prog 47 #[.agg #[.int .i64 i, .int .i64 t, .int .i64 s, .string nm, .int .i64 ed, .int .i64 L, .int .i64 S, .slice p1 n1 f1, .slice p2 n2 f2, .int .i64 C, .int .i64 Z, .slice p3 n3 f3]] w fun e w' => e = .returned (.bool (decide (nonP L S n1 n2 C Z n3))) ∧ Below w.heap.size w w' := by
  by_cases hn1 : n1 = 0
  case neg =>
    rw [decide_eq_false (show ¬ nonP L S n1 n2 C Z n3 from fun h => hn1 (by unfold nonP at h; omega))]
    have bn1 : (((n1 : Nat) : Int) == 0) = false := beq_eq_false_iff_ne.2 (by omega)
    go_enter Tryz.func47, Tryz.ntmps47
    go_wp2_with fail
    go_ret
    exact ⟨rfl, u_b1 _ _⟩
  subst hn1
  by_cases hn2 : n2 = 0
  case neg =>
    rw [decide_eq_false (show ¬ nonP L S 0 n2 C Z n3 from fun h => hn2 (by unfold nonP at h; omega))]
    have bn2 : (((n2 : Nat) : Int) == 0) = false := beq_eq_false_iff_ne.2 (by omega)
    go_enter Tryz.func47, Tryz.ntmps47
    go_wp2_with fail
    go_ret
    exact ⟨rfl, u_b1 _ _⟩
  subst hn2
  by_cases hL : L = 0
  case neg =>
    rw [decide_eq_false (show ¬ nonP L S 0 0 C Z n3 from fun h => hL (by unfold nonP at h; omega))]
    have bL : (L == 0) = false := beq_eq_false_iff_ne.2 hL
    go_enter Tryz.func47, Tryz.ntmps47
    go_wp2_with fail
    go_ret
    exact ⟨rfl, u_b1 _ _⟩
  subst hL
  by_cases hS : S = 0
  case neg =>
    rw [decide_eq_false (show ¬ nonP 0 S 0 0 C Z n3 from fun h => hS (by unfold nonP at h; omega))]
    have bS : (S == 0) = false := beq_eq_false_iff_ne.2 hS
    go_enter Tryz.func47, Tryz.ntmps47
    go_wp2_with fail
    go_ret
    exact ⟨rfl, u_b1 _ _⟩
  subst hS
  by_cases hC : C = 0
  case neg =>
    rw [decide_eq_false (show ¬ nonP 0 0 0 0 C Z n3 from fun h => hC (by unfold nonP at h; omega))]
    have bC : (C == 0) = false := beq_eq_false_iff_ne.2 hC
    go_enter Tryz.func47, Tryz.ntmps47
    go_wp2_with fail
    go_ret
    exact ⟨rfl, u_b1 _ _⟩
  subst hC
  by_cases hZ : Z = 0
  case neg =>
    rw [decide_eq_false (show ¬ nonP 0 0 0 0 0 Z n3 from fun h => hZ (by unfold nonP at h; omega))]
    have bZ : (Z == 0) = false := beq_eq_false_iff_ne.2 hZ
    go_enter Tryz.func47, Tryz.ntmps47
    go_wp2_with fail
    go_ret
    exact ⟨rfl, u_b1 _ _⟩
  subst hZ
  by_cases hn3 : n3 = 0
  case neg =>
    rw [decide_eq_false (show ¬ nonP 0 0 0 0 0 0 n3 from fun h => hn3 (by unfold nonP at h; omega))]
    have bn3 : (((n3 : Nat) : Int) == 0) = false := beq_eq_false_iff_ne.2 (by omega)
    go_enter Tryz.func47, Tryz.ntmps47
    go_wp2_with fail
    go_ret
    exact ⟨rfl, u_b1 _ _⟩
  subst hn3
  rw [decide_eq_true (show nonP 0 0 0 0 0 0 0 from ⟨rfl, rfl, rfl, rfl, rfl, rfl, rfl⟩)]
  go_enter Tryz.func47, Tryz.ntmps47
  go_wp2_with fail
  go_ret
  exact ⟨rfl, u_b1 _ _⟩
set_option maxHeartbeats 4000000 in
set_option maxRecDepth 100000 in
theorem isNothing_any (L S : Int) (p1 p2 p3 : Option Addr) (n1 n2 n3 f1 f2 f3 : Nat) (C Z : Int) (w : World) :
    Calls Tryz.prog 75 #[.agg #[.int .i64 L, .int .i64 S, .slice p1 n1 f1, .slice p2 n2 f2, .int .i64 C, .int .i64 Z, .slice p3 n3 f3]] w fun e w' => e = .returned (.bool (decide (nonP L S n1 n2 C Z n3))) ∧ Below w.heap.size w w' := by
  by_cases hL : L = 0
  case neg =>
    rw [decide_eq_false (show ¬ nonP L S n1 n2 C Z n3 from fun h => hL (by unfold nonP at h; omega))]
    have bL : (L == 0) = false := beq_eq_false_iff_ne.2 hL
    obtain ⟨W0, hW0⟩ : ∃ W0, W0 = w.alloc (.cells #[.int .i64 L, .int .i64 S, .slice p1 n1 f1, .slice p2 n2 f2, .int .i64 C, .int .i64 Z, .slice p3 n3 f3] 38) := ⟨_, rfl⟩
    have X0 : W0.heap[w.heap.size]? = some (.cells #[.int .i64 L, .int .i64 S, .slice p1 n1 f1, .slice p2 n2 f2, .int .i64 C, .int .i64 Z, .slice p3 n3 f3] 38 (0, 0)) := by rw [hW0]; exact laid _ _ _
    have B0 := hid (show Below w.heap.size w W0 by rw [hW0]; exact u_b1 _ _)
    have hz0 : W0.heap.size = w.heap.size + 1 := by rw [hW0]; simp
    have y0 := cell_regrown (box_cell X0 0 (v := .int .i64 L) rfl)
    have y1 := cell_regrown (box_cell X0 1 (v := .int .i64 S) rfl)
    have y2 := cell_regrown (box_cell X0 2 (v := .slice p1 n1 f1) rfl)
    have y3 := cell_regrown (box_cell X0 3 (v := .slice p2 n2 f2) rfl)
    have y4 := cell_regrown (box_cell X0 4 (v := .int .i64 C) rfl)
    have y5 := cell_regrown (box_cell X0 5 (v := .int .i64 Z) rfl)
    have y6 := cell_regrown (box_cell X0 6 (v := .slice p3 n3 f3) rfl)
    clear X0
    go_enter Tryz.func75, Tryz.ntmps75
    repeat ((fail_if_success (with_reducible show Code.wp _ (Code.region 1 _ _) _ _ _)); (first | go_values | go_skip | go_guarded | go_step | go_upon | go_back | go_simp))
    rw [← hW0]
    clear hW0
    refine wp_plan 7 (.pull [(0, 4)] (.fork 4 (.step 5 (.step 6 (.step 7 .done))) 5 (.step 4 (.step 6 (.step 7 .done))))) (by kernel_rfl) (by kernel_rfl) ?_
    intro V0 hw0
    have hbq := of_class hw0
    have hz1 := hbq.size
    refine pln_pull ?_
    simp only [cutOut, List.take_succ_cons, List.take_zero, List.drop_zero, List.append_nil]
    repeat (first | go_big_quiet_step (fail) | quiet_step (fail))
    try refine wpQuiet_nil ?_
    clear y0 y1 y2 y3 y4 y5 y6
    refine pln_fork ?_ ?_
    · refine pln_step rfl (by omega) (fun K hK => ?_)
      go_simp
      refine hK _ _ (class_of (u_cat hbq (u_b1 _ _))) ?_
      clear hK K
      refine pln_step rfl (by omega) (fun K hK => ?_)
      go_simp
      refine hK _ _ (class_of (u_cat hbq (u_b2 _ _ _))) ?_
      clear hK K
      obtain ⟨V2, hV2⟩ : ∃ V2, V2 = (V0.alloc (.cells #[.int .i64 0, .int .i64 0, .slice none 0 0, .slice none 0 0] 33)).alloc (.cells #[.int .i64 0, .int .i64 0, .slice none 0 0] 36) := ⟨_, rfl⟩
      have B2 := hid (show Below w.heap.size w V2 by rw [hV2]; exact u_cat (u_cat B0.out hbq) (u_b2 _ _ _))
      have C2 := hid (show Below W0.heap.size W0 V2 by rw [hV2]; exact u_cat hbq (u_b2 _ _ _))
      have Zp := hid (show V2.heap[V0.heap.size]? = some (.cells #[.int .i64 0, .int .i64 0, .slice none 0 0, .slice none 0 0] 33 (0, 0)) by rw [hV2]; exact kept (laid _ _ _) (u_b1 _ _))
      have Zs := hid (show V2.heap[V0.heap.size + 1]? = some (.cells #[.int .i64 0, .int .i64 0, .slice none 0 0] 36 (0, 0)) by rw [hV2]; exact u_laid _ _ _ (by simp))
      rw [← hV2]
      clear hV2
      have x0 := box_cell Zp.out 0 (v := .int .i64 0) rfl
      have x1 := box_cell Zp.out 1 (v := .int .i64 0) rfl
      have x2 := box_cell Zp.out 2 (v := .slice none 0 0) rfl
      have x3 := box_cell Zp.out 3 (v := .slice none 0 0) rfl
      have fx0 := box_frozen Zp.out 0
      have fx1 := box_frozen Zp.out 1
      have fx2 := box_frozen Zp.out 2
      have fx3 := box_frozen Zp.out 3
      refine pln_step rfl (by omega) (fun K hK => ?_)
      go_simp
      refine hK _ _ (class_of (Below.setCell (p := ⟨V0.heap.size, 3, none⟩) (Below.setCell (p := ⟨V0.heap.size, 2, none⟩) (Below.setCell (p := ⟨V0.heap.size, 1, none⟩) (Below.setCell (p := ⟨V0.heap.size, 0, none⟩) C2.out (by show _ ≤ V0.heap.size; omega) _) (by show _ ≤ V0.heap.size; omega) _) (by show _ ≤ V0.heap.size; omega) _) (by show _ ≤ V0.heap.size; omega) _)) ?_
      clear hK K x0 x1 x2 x3 fx0 fx1 fx2 fx3
      obtain ⟨W3, hW3⟩ : ∃ W3, W3 = ((((V2.setCell ⟨V0.heap.size, 0, none⟩ (.int .i64 L)).setCell ⟨V0.heap.size, 1, none⟩ (.int .i64 S)).setCell ⟨V0.heap.size, 2, none⟩ (.slice p1 n1 f1)).setCell ⟨V0.heap.size, 3, none⟩ (.slice p2 n2 f2)) := ⟨_, rfl⟩
      have Zp3 := hid (show W3.heap[V0.heap.size]? = some (.cells #[.int .i64 L, .int .i64 S, .slice p1 n1 f1, .slice p2 n2 f2] 33 (0, 0)) by rw [hW3]; exact (set_block (set_block (set_block (set_block Zp.out 0 _) 1 _) 2 _) 3 _))
      have Zs3 := hid (show W3.heap[V0.heap.size + 1]? = some (.cells #[.int .i64 0, .int .i64 0, .slice none 0 0] 36 (0, 0)) by rw [hW3]; exact (set_other (set_other (set_other (set_other Zs.out (by omega) _ _) (by omega) _ _) (by omega) _ _) (by omega) _ _))
      have B3 := hid (show Below w.heap.size w W3 by rw [hW3]; exact (Below.setCell (p := ⟨V0.heap.size, 3, none⟩) (Below.setCell (p := ⟨V0.heap.size, 2, none⟩) (Below.setCell (p := ⟨V0.heap.size, 1, none⟩) (Below.setCell (p := ⟨V0.heap.size, 0, none⟩) B2.out (by show _ ≤ V0.heap.size; omega) _) (by show _ ≤ V0.heap.size; omega) _) (by show _ ≤ V0.heap.size; omega) _) (by show _ ≤ V0.heap.size; omega) _))
      rw [← hW3]
      clear hW3 Zp Zs B2
      have x0 := box_cell Zs3.out 0 (v := .int .i64 0) rfl
      have x1 := box_cell Zs3.out 1 (v := .int .i64 0) rfl
      have x2 := box_cell Zs3.out 2 (v := .slice none 0 0) rfl
      have fx0 := box_frozen Zs3.out 0
      have fx1 := box_frozen Zs3.out 1
      have fx2 := box_frozen Zs3.out 2
      refine pln_last rfl (by omega) (fun K hK => ?_)
      go_simp
      refine hK _ _ ?_
      clear hK K x0 x1 x2 fx0 fx1 fx2
      obtain ⟨W4, hW4⟩ : ∃ W4, W4 = (((W3.setCell ⟨V0.heap.size + 1, 0, none⟩ (.int .i64 C)).setCell ⟨V0.heap.size + 1, 1, none⟩ (.int .i64 Z)).setCell ⟨V0.heap.size + 1, 2, none⟩ (.slice p3 n3 f3)) := ⟨_, rfl⟩
      have Zp4 := hid (show W4.heap[V0.heap.size]? = some (.cells #[.int .i64 L, .int .i64 S, .slice p1 n1 f1, .slice p2 n2 f2] 33 (0, 0)) by rw [hW4]; exact (set_other (set_other (set_other Zp3.out (by omega) _ _) (by omega) _ _) (by omega) _ _))
      have Zs4 := hid (show W4.heap[V0.heap.size + 1]? = some (.cells #[.int .i64 C, .int .i64 Z, .slice p3 n3 f3] 36 (0, 0)) by rw [hW4]; exact (set_block (set_block (set_block Zs3.out 0 _) 1 _) 2 _))
      have B4 := hid (show Below w.heap.size w W4 by rw [hW4]; exact (Below.setCell (p := ⟨V0.heap.size + 1, 2, none⟩) (Below.setCell (p := ⟨V0.heap.size + 1, 1, none⟩) (Below.setCell (p := ⟨V0.heap.size + 1, 0, none⟩) B3.out (by show _ ≤ V0.heap.size + 1; omega) _) (by show _ ≤ V0.heap.size + 1; omega) _) (by show _ ≤ V0.heap.size + 1; omega) _))
      rw [← hW4]
      clear hW4 Zp3 Zs3 B3
      refine pln_done ?_
      have x0 := box_cell Zp4.out 0 (v := .int .i64 L) rfl
      have x1 := box_cell Zp4.out 1 (v := .int .i64 S) rfl
      have x2 := box_cell Zp4.out 2 (v := .slice p1 n1 f1) rfl
      have x3 := box_cell Zp4.out 3 (v := .slice p2 n2 f2) rfl
      have t0 := box_cell Zs4.out 0 (v := .int .i64 C) rfl
      have t1 := box_cell Zs4.out 1 (v := .int .i64 Z) rfl
      have t2 := box_cell Zs4.out 2 (v := .slice p3 n3 f3) rfl
      go_wp2_with fail
      go_ret
      exact ⟨rfl, B4.out⟩
    · refine pln_step rfl (by omega) (fun K hK => ?_)
      go_simp
      refine hK _ _ (class_of (u_cat hbq (u_b1 _ _))) ?_
      clear hK K
      refine pln_step rfl (by omega) (fun K hK => ?_)
      go_simp
      refine hK _ _ (class_of (u_cat hbq (u_b2 _ _ _))) ?_
      clear hK K
      obtain ⟨V2, hV2⟩ : ∃ V2, V2 = (V0.alloc (.cells #[.int .i64 0, .int .i64 0, .slice none 0 0] 36)).alloc (.cells #[.int .i64 0, .int .i64 0, .slice none 0 0, .slice none 0 0] 33) := ⟨_, rfl⟩
      have B2 := hid (show Below w.heap.size w V2 by rw [hV2]; exact u_cat (u_cat B0.out hbq) (u_b2 _ _ _))
      have C2 := hid (show Below W0.heap.size W0 V2 by rw [hV2]; exact u_cat hbq (u_b2 _ _ _))
      have Zs := hid (show V2.heap[V0.heap.size]? = some (.cells #[.int .i64 0, .int .i64 0, .slice none 0 0] 36 (0, 0)) by rw [hV2]; exact kept (laid _ _ _) (u_b1 _ _))
      have Zp := hid (show V2.heap[V0.heap.size + 1]? = some (.cells #[.int .i64 0, .int .i64 0, .slice none 0 0, .slice none 0 0] 33 (0, 0)) by rw [hV2]; exact u_laid _ _ _ (by simp))
      rw [← hV2]
      clear hV2
      have x0 := box_cell Zp.out 0 (v := .int .i64 0) rfl
      have x1 := box_cell Zp.out 1 (v := .int .i64 0) rfl
      have x2 := box_cell Zp.out 2 (v := .slice none 0 0) rfl
      have x3 := box_cell Zp.out 3 (v := .slice none 0 0) rfl
      have fx0 := box_frozen Zp.out 0
      have fx1 := box_frozen Zp.out 1
      have fx2 := box_frozen Zp.out 2
      have fx3 := box_frozen Zp.out 3
      refine pln_step rfl (by omega) (fun K hK => ?_)
      go_simp
      refine hK _ _ (class_of (Below.setCell (p := ⟨V0.heap.size + 1, 3, none⟩) (Below.setCell (p := ⟨V0.heap.size + 1, 2, none⟩) (Below.setCell (p := ⟨V0.heap.size + 1, 1, none⟩) (Below.setCell (p := ⟨V0.heap.size + 1, 0, none⟩) C2.out (by show _ ≤ V0.heap.size + 1; omega) _) (by show _ ≤ V0.heap.size + 1; omega) _) (by show _ ≤ V0.heap.size + 1; omega) _) (by show _ ≤ V0.heap.size + 1; omega) _)) ?_
      clear hK K x0 x1 x2 x3 fx0 fx1 fx2 fx3
      obtain ⟨W3, hW3⟩ : ∃ W3, W3 = ((((V2.setCell ⟨V0.heap.size + 1, 0, none⟩ (.int .i64 L)).setCell ⟨V0.heap.size + 1, 1, none⟩ (.int .i64 S)).setCell ⟨V0.heap.size + 1, 2, none⟩ (.slice p1 n1 f1)).setCell ⟨V0.heap.size + 1, 3, none⟩ (.slice p2 n2 f2)) := ⟨_, rfl⟩
      have Zp3 := hid (show W3.heap[V0.heap.size + 1]? = some (.cells #[.int .i64 L, .int .i64 S, .slice p1 n1 f1, .slice p2 n2 f2] 33 (0, 0)) by rw [hW3]; exact (set_block (set_block (set_block (set_block Zp.out 0 _) 1 _) 2 _) 3 _))
      have Zs3 := hid (show W3.heap[V0.heap.size]? = some (.cells #[.int .i64 0, .int .i64 0, .slice none 0 0] 36 (0, 0)) by rw [hW3]; exact (set_other (set_other (set_other (set_other Zs.out (by omega) _ _) (by omega) _ _) (by omega) _ _) (by omega) _ _))
      have B3 := hid (show Below w.heap.size w W3 by rw [hW3]; exact (Below.setCell (p := ⟨V0.heap.size + 1, 3, none⟩) (Below.setCell (p := ⟨V0.heap.size + 1, 2, none⟩) (Below.setCell (p := ⟨V0.heap.size + 1, 1, none⟩) (Below.setCell (p := ⟨V0.heap.size + 1, 0, none⟩) B2.out (by show _ ≤ V0.heap.size + 1; omega) _) (by show _ ≤ V0.heap.size + 1; omega) _) (by show _ ≤ V0.heap.size + 1; omega) _) (by show _ ≤ V0.heap.size + 1; omega) _))
      rw [← hW3]
      clear hW3 Zp Zs B2
      have x0 := box_cell Zs3.out 0 (v := .int .i64 0) rfl
      have x1 := box_cell Zs3.out 1 (v := .int .i64 0) rfl
      have x2 := box_cell Zs3.out 2 (v := .slice none 0 0) rfl
      have fx0 := box_frozen Zs3.out 0
      have fx1 := box_frozen Zs3.out 1
      have fx2 := box_frozen Zs3.out 2
      refine pln_last rfl (by omega) (fun K hK => ?_)
      go_simp
      refine hK _ _ ?_
      clear hK K x0 x1 x2 fx0 fx1 fx2
      obtain ⟨W4, hW4⟩ : ∃ W4, W4 = (((W3.setCell ⟨V0.heap.size, 0, none⟩ (.int .i64 C)).setCell ⟨V0.heap.size, 1, none⟩ (.int .i64 Z)).setCell ⟨V0.heap.size, 2, none⟩ (.slice p3 n3 f3)) := ⟨_, rfl⟩
      have Zp4 := hid (show W4.heap[V0.heap.size + 1]? = some (.cells #[.int .i64 L, .int .i64 S, .slice p1 n1 f1, .slice p2 n2 f2] 33 (0, 0)) by rw [hW4]; exact (set_other (set_other (set_other Zp3.out (by omega) _ _) (by omega) _ _) (by omega) _ _))
      have Zs4 := hid (show W4.heap[V0.heap.size]? = some (.cells #[.int .i64 C, .int .i64 Z, .slice p3 n3 f3] 36 (0, 0)) by rw [hW4]; exact (set_block (set_block (set_block Zs3.out 0 _) 1 _) 2 _))
      have B4 := hid (show Below w.heap.size w W4 by rw [hW4]; exact (Below.setCell (p := ⟨V0.heap.size, 2, none⟩) (Below.setCell (p := ⟨V0.heap.size, 1, none⟩) (Below.setCell (p := ⟨V0.heap.size, 0, none⟩) B3.out (by show _ ≤ V0.heap.size; omega) _) (by show _ ≤ V0.heap.size; omega) _) (by show _ ≤ V0.heap.size; omega) _))
      rw [← hW4]
      clear hW4 Zp3 Zs3 B3
      refine pln_done ?_
      have x0 := box_cell Zp4.out 0 (v := .int .i64 L) rfl
      have x1 := box_cell Zp4.out 1 (v := .int .i64 S) rfl
      have x2 := box_cell Zp4.out 2 (v := .slice p1 n1 f1) rfl
      have x3 := box_cell Zp4.out 3 (v := .slice p2 n2 f2) rfl
      have t0 := box_cell Zs4.out 0 (v := .int .i64 C) rfl
      have t1 := box_cell Zs4.out 1 (v := .int .i64 Z) rfl
      have t2 := box_cell Zs4.out 2 (v := .slice p3 n3 f3) rfl
      go_wp2_with fail
      go_ret
      exact ⟨rfl, B4.out⟩
  subst hL
  by_cases hS : S = 0
  case neg =>
    rw [decide_eq_false (show ¬ nonP 0 S n1 n2 C Z n3 from fun h => hS (by unfold nonP at h; omega))]
    have bS : (S == 0) = false := beq_eq_false_iff_ne.2 hS
    obtain ⟨W0, hW0⟩ : ∃ W0, W0 = w.alloc (.cells #[.int .i64 0, .int .i64 S, .slice p1 n1 f1, .slice p2 n2 f2, .int .i64 C, .int .i64 Z, .slice p3 n3 f3] 38) := ⟨_, rfl⟩
    have X0 : W0.heap[w.heap.size]? = some (.cells #[.int .i64 0, .int .i64 S, .slice p1 n1 f1, .slice p2 n2 f2, .int .i64 C, .int .i64 Z, .slice p3 n3 f3] 38 (0, 0)) := by rw [hW0]; exact laid _ _ _
    have B0 := hid (show Below w.heap.size w W0 by rw [hW0]; exact u_b1 _ _)
    have hz0 : W0.heap.size = w.heap.size + 1 := by rw [hW0]; simp
    have y0 := cell_regrown (box_cell X0 0 (v := .int .i64 0) rfl)
    have y1 := cell_regrown (box_cell X0 1 (v := .int .i64 S) rfl)
    have y2 := cell_regrown (box_cell X0 2 (v := .slice p1 n1 f1) rfl)
    have y3 := cell_regrown (box_cell X0 3 (v := .slice p2 n2 f2) rfl)
    have y4 := cell_regrown (box_cell X0 4 (v := .int .i64 C) rfl)
    have y5 := cell_regrown (box_cell X0 5 (v := .int .i64 Z) rfl)
    have y6 := cell_regrown (box_cell X0 6 (v := .slice p3 n3 f3) rfl)
    clear X0
    go_enter Tryz.func75, Tryz.ntmps75
    repeat ((fail_if_success (with_reducible show Code.wp _ (Code.region 1 _ _) _ _ _)); (first | go_values | go_skip | go_guarded | go_step | go_upon | go_back | go_simp))
    rw [← hW0]
    clear hW0
    refine wp_plan 7 (.pull [(0, 4)] (.fork 4 (.step 5 (.step 6 (.step 7 .done))) 5 (.step 4 (.step 6 (.step 7 .done))))) (by kernel_rfl) (by kernel_rfl) ?_
    intro V0 hw0
    have hbq := of_class hw0
    have hz1 := hbq.size
    refine pln_pull ?_
    simp only [cutOut, List.take_succ_cons, List.take_zero, List.drop_zero, List.append_nil]
    repeat (first | go_big_quiet_step (fail) | quiet_step (fail))
    try refine wpQuiet_nil ?_
    clear y0 y1 y2 y3 y4 y5 y6
    refine pln_fork ?_ ?_
    · refine pln_step rfl (by omega) (fun K hK => ?_)
      go_simp
      refine hK _ _ (class_of (u_cat hbq (u_b1 _ _))) ?_
      clear hK K
      refine pln_step rfl (by omega) (fun K hK => ?_)
      go_simp
      refine hK _ _ (class_of (u_cat hbq (u_b2 _ _ _))) ?_
      clear hK K
      obtain ⟨V2, hV2⟩ : ∃ V2, V2 = (V0.alloc (.cells #[.int .i64 0, .int .i64 0, .slice none 0 0, .slice none 0 0] 33)).alloc (.cells #[.int .i64 0, .int .i64 0, .slice none 0 0] 36) := ⟨_, rfl⟩
      have B2 := hid (show Below w.heap.size w V2 by rw [hV2]; exact u_cat (u_cat B0.out hbq) (u_b2 _ _ _))
      have C2 := hid (show Below W0.heap.size W0 V2 by rw [hV2]; exact u_cat hbq (u_b2 _ _ _))
      have Zp := hid (show V2.heap[V0.heap.size]? = some (.cells #[.int .i64 0, .int .i64 0, .slice none 0 0, .slice none 0 0] 33 (0, 0)) by rw [hV2]; exact kept (laid _ _ _) (u_b1 _ _))
      have Zs := hid (show V2.heap[V0.heap.size + 1]? = some (.cells #[.int .i64 0, .int .i64 0, .slice none 0 0] 36 (0, 0)) by rw [hV2]; exact u_laid _ _ _ (by simp))
      rw [← hV2]
      clear hV2
      have x0 := box_cell Zp.out 0 (v := .int .i64 0) rfl
      have x1 := box_cell Zp.out 1 (v := .int .i64 0) rfl
      have x2 := box_cell Zp.out 2 (v := .slice none 0 0) rfl
      have x3 := box_cell Zp.out 3 (v := .slice none 0 0) rfl
      have fx0 := box_frozen Zp.out 0
      have fx1 := box_frozen Zp.out 1
      have fx2 := box_frozen Zp.out 2
      have fx3 := box_frozen Zp.out 3
      refine pln_step rfl (by omega) (fun K hK => ?_)
      go_simp
      refine hK _ _ (class_of (Below.setCell (p := ⟨V0.heap.size, 3, none⟩) (Below.setCell (p := ⟨V0.heap.size, 2, none⟩) (Below.setCell (p := ⟨V0.heap.size, 1, none⟩) (Below.setCell (p := ⟨V0.heap.size, 0, none⟩) C2.out (by show _ ≤ V0.heap.size; omega) _) (by show _ ≤ V0.heap.size; omega) _) (by show _ ≤ V0.heap.size; omega) _) (by show _ ≤ V0.heap.size; omega) _)) ?_
      clear hK K x0 x1 x2 x3 fx0 fx1 fx2 fx3
      obtain ⟨W3, hW3⟩ : ∃ W3, W3 = ((((V2.setCell ⟨V0.heap.size, 0, none⟩ (.int .i64 0)).setCell ⟨V0.heap.size, 1, none⟩ (.int .i64 S)).setCell ⟨V0.heap.size, 2, none⟩ (.slice p1 n1 f1)).setCell ⟨V0.heap.size, 3, none⟩ (.slice p2 n2 f2)) := ⟨_, rfl⟩
      have Zp3 := hid (show W3.heap[V0.heap.size]? = some (.cells #[.int .i64 0, .int .i64 S, .slice p1 n1 f1, .slice p2 n2 f2] 33 (0, 0)) by rw [hW3]; exact (set_block (set_block (set_block (set_block Zp.out 0 _) 1 _) 2 _) 3 _))
      have Zs3 := hid (show W3.heap[V0.heap.size + 1]? = some (.cells #[.int .i64 0, .int .i64 0, .slice none 0 0] 36 (0, 0)) by rw [hW3]; exact (set_other (set_other (set_other (set_other Zs.out (by omega) _ _) (by omega) _ _) (by omega) _ _) (by omega) _ _))
      have B3 := hid (show Below w.heap.size w W3 by rw [hW3]; exact (Below.setCell (p := ⟨V0.heap.size, 3, none⟩) (Below.setCell (p := ⟨V0.heap.size, 2, none⟩) (Below.setCell (p := ⟨V0.heap.size, 1, none⟩) (Below.setCell (p := ⟨V0.heap.size, 0, none⟩) B2.out (by show _ ≤ V0.heap.size; omega) _) (by show _ ≤ V0.heap.size; omega) _) (by show _ ≤ V0.heap.size; omega) _) (by show _ ≤ V0.heap.size; omega) _))
      rw [← hW3]
      clear hW3 Zp Zs B2
      have x0 := box_cell Zs3.out 0 (v := .int .i64 0) rfl
      have x1 := box_cell Zs3.out 1 (v := .int .i64 0) rfl
      have x2 := box_cell Zs3.out 2 (v := .slice none 0 0) rfl
      have fx0 := box_frozen Zs3.out 0
      have fx1 := box_frozen Zs3.out 1
      have fx2 := box_frozen Zs3.out 2
      refine pln_last rfl (by omega) (fun K hK => ?_)
      go_simp
      refine hK _ _ ?_
      clear hK K x0 x1 x2 fx0 fx1 fx2
      obtain ⟨W4, hW4⟩ : ∃ W4, W4 = (((W3.setCell ⟨V0.heap.size + 1, 0, none⟩ (.int .i64 C)).setCell ⟨V0.heap.size + 1, 1, none⟩ (.int .i64 Z)).setCell ⟨V0.heap.size + 1, 2, none⟩ (.slice p3 n3 f3)) := ⟨_, rfl⟩
      have Zp4 := hid (show W4.heap[V0.heap.size]? = some (.cells #[.int .i64 0, .int .i64 S, .slice p1 n1 f1, .slice p2 n2 f2] 33 (0, 0)) by rw [hW4]; exact (set_other (set_other (set_other Zp3.out (by omega) _ _) (by omega) _ _) (by omega) _ _))
      have Zs4 := hid (show W4.heap[V0.heap.size + 1]? = some (.cells #[.int .i64 C, .int .i64 Z, .slice p3 n3 f3] 36 (0, 0)) by rw [hW4]; exact (set_block (set_block (set_block Zs3.out 0 _) 1 _) 2 _))
      have B4 := hid (show Below w.heap.size w W4 by rw [hW4]; exact (Below.setCell (p := ⟨V0.heap.size + 1, 2, none⟩) (Below.setCell (p := ⟨V0.heap.size + 1, 1, none⟩) (Below.setCell (p := ⟨V0.heap.size + 1, 0, none⟩) B3.out (by show _ ≤ V0.heap.size + 1; omega) _) (by show _ ≤ V0.heap.size + 1; omega) _) (by show _ ≤ V0.heap.size + 1; omega) _))
      rw [← hW4]
      clear hW4 Zp3 Zs3 B3
      refine pln_done ?_
      have x0 := box_cell Zp4.out 0 (v := .int .i64 0) rfl
      have x1 := box_cell Zp4.out 1 (v := .int .i64 S) rfl
      have x2 := box_cell Zp4.out 2 (v := .slice p1 n1 f1) rfl
      have x3 := box_cell Zp4.out 3 (v := .slice p2 n2 f2) rfl
      have t0 := box_cell Zs4.out 0 (v := .int .i64 C) rfl
      have t1 := box_cell Zs4.out 1 (v := .int .i64 Z) rfl
      have t2 := box_cell Zs4.out 2 (v := .slice p3 n3 f3) rfl
      go_wp2_with fail
      go_ret
      exact ⟨rfl, B4.out⟩
    · refine pln_step rfl (by omega) (fun K hK => ?_)
      go_simp
      refine hK _ _ (class_of (u_cat hbq (u_b1 _ _))) ?_
      clear hK K
      refine pln_step rfl (by omega) (fun K hK => ?_)
      go_simp
      refine hK _ _ (class_of (u_cat hbq (u_b2 _ _ _))) ?_
      clear hK K
      obtain ⟨V2, hV2⟩ : ∃ V2, V2 = (V0.alloc (.cells #[.int .i64 0, .int .i64 0, .slice none 0 0] 36)).alloc (.cells #[.int .i64 0, .int .i64 0, .slice none 0 0, .slice none 0 0] 33) := ⟨_, rfl⟩
      have B2 := hid (show Below w.heap.size w V2 by rw [hV2]; exact u_cat (u_cat B0.out hbq) (u_b2 _ _ _))
      have C2 := hid (show Below W0.heap.size W0 V2 by rw [hV2]; exact u_cat hbq (u_b2 _ _ _))
      have Zs := hid (show V2.heap[V0.heap.size]? = some (.cells #[.int .i64 0, .int .i64 0, .slice none 0 0] 36 (0, 0)) by rw [hV2]; exact kept (laid _ _ _) (u_b1 _ _))
      have Zp := hid (show V2.heap[V0.heap.size + 1]? = some (.cells #[.int .i64 0, .int .i64 0, .slice none 0 0, .slice none 0 0] 33 (0, 0)) by rw [hV2]; exact u_laid _ _ _ (by simp))
      rw [← hV2]
      clear hV2
      have x0 := box_cell Zp.out 0 (v := .int .i64 0) rfl
      have x1 := box_cell Zp.out 1 (v := .int .i64 0) rfl
      have x2 := box_cell Zp.out 2 (v := .slice none 0 0) rfl
      have x3 := box_cell Zp.out 3 (v := .slice none 0 0) rfl
      have fx0 := box_frozen Zp.out 0
      have fx1 := box_frozen Zp.out 1
      have fx2 := box_frozen Zp.out 2
      have fx3 := box_frozen Zp.out 3
      refine pln_step rfl (by omega) (fun K hK => ?_)
      go_simp
      refine hK _ _ (class_of (Below.setCell (p := ⟨V0.heap.size + 1, 3, none⟩) (Below.setCell (p := ⟨V0.heap.size + 1, 2, none⟩) (Below.setCell (p := ⟨V0.heap.size + 1, 1, none⟩) (Below.setCell (p := ⟨V0.heap.size + 1, 0, none⟩) C2.out (by show _ ≤ V0.heap.size + 1; omega) _) (by show _ ≤ V0.heap.size + 1; omega) _) (by show _ ≤ V0.heap.size + 1; omega) _) (by show _ ≤ V0.heap.size + 1; omega) _)) ?_
      clear hK K x0 x1 x2 x3 fx0 fx1 fx2 fx3
      obtain ⟨W3, hW3⟩ : ∃ W3, W3 = ((((V2.setCell ⟨V0.heap.size + 1, 0, none⟩ (.int .i64 0)).setCell ⟨V0.heap.size + 1, 1, none⟩ (.int .i64 S)).setCell ⟨V0.heap.size + 1, 2, none⟩ (.slice p1 n1 f1)).setCell ⟨V0.heap.size + 1, 3, none⟩ (.slice p2 n2 f2)) := ⟨_, rfl⟩
      have Zp3 := hid (show W3.heap[V0.heap.size + 1]? = some (.cells #[.int .i64 0, .int .i64 S, .slice p1 n1 f1, .slice p2 n2 f2] 33 (0, 0)) by rw [hW3]; exact (set_block (set_block (set_block (set_block Zp.out 0 _) 1 _) 2 _) 3 _))
      have Zs3 := hid (show W3.heap[V0.heap.size]? = some (.cells #[.int .i64 0, .int .i64 0, .slice none 0 0] 36 (0, 0)) by rw [hW3]; exact (set_other (set_other (set_other (set_other Zs.out (by omega) _ _) (by omega) _ _) (by omega) _ _) (by omega) _ _))
      have B3 := hid (show Below w.heap.size w W3 by rw [hW3]; exact (Below.setCell (p := ⟨V0.heap.size + 1, 3, none⟩) (Below.setCell (p := ⟨V0.heap.size + 1, 2, none⟩) (Below.setCell (p := ⟨V0.heap.size + 1, 1, none⟩) (Below.setCell (p := ⟨V0.heap.size + 1, 0, none⟩) B2.out (by show _ ≤ V0.heap.size + 1; omega) _) (by show _ ≤ V0.heap.size + 1; omega) _) (by show _ ≤ V0.heap.size + 1; omega) _) (by show _ ≤ V0.heap.size + 1; omega) _))
      rw [← hW3]
      clear hW3 Zp Zs B2
      have x0 := box_cell Zs3.out 0 (v := .int .i64 0) rfl
      have x1 := box_cell Zs3.out 1 (v := .int .i64 0) rfl
      have x2 := box_cell Zs3.out 2 (v := .slice none 0 0) rfl
      have fx0 := box_frozen Zs3.out 0
      have fx1 := box_frozen Zs3.out 1
      have fx2 := box_frozen Zs3.out 2
      refine pln_last rfl (by omega) (fun K hK => ?_)
      go_simp
      refine hK _ _ ?_
      clear hK K x0 x1 x2 fx0 fx1 fx2
      obtain ⟨W4, hW4⟩ : ∃ W4, W4 = (((W3.setCell ⟨V0.heap.size, 0, none⟩ (.int .i64 C)).setCell ⟨V0.heap.size, 1, none⟩ (.int .i64 Z)).setCell ⟨V0.heap.size, 2, none⟩ (.slice p3 n3 f3)) := ⟨_, rfl⟩
      have Zp4 := hid (show W4.heap[V0.heap.size + 1]? = some (.cells #[.int .i64 0, .int .i64 S, .slice p1 n1 f1, .slice p2 n2 f2] 33 (0, 0)) by rw [hW4]; exact (set_other (set_other (set_other Zp3.out (by omega) _ _) (by omega) _ _) (by omega) _ _))
      have Zs4 := hid (show W4.heap[V0.heap.size]? = some (.cells #[.int .i64 C, .int .i64 Z, .slice p3 n3 f3] 36 (0, 0)) by rw [hW4]; exact (set_block (set_block (set_block Zs3.out 0 _) 1 _) 2 _))
      have B4 := hid (show Below w.heap.size w W4 by rw [hW4]; exact (Below.setCell (p := ⟨V0.heap.size, 2, none⟩) (Below.setCell (p := ⟨V0.heap.size, 1, none⟩) (Below.setCell (p := ⟨V0.heap.size, 0, none⟩) B3.out (by show _ ≤ V0.heap.size; omega) _) (by show _ ≤ V0.heap.size; omega) _) (by show _ ≤ V0.heap.size; omega) _))
      rw [← hW4]
      clear hW4 Zp3 Zs3 B3
      refine pln_done ?_
      have x0 := box_cell Zp4.out 0 (v := .int .i64 0) rfl
      have x1 := box_cell Zp4.out 1 (v := .int .i64 S) rfl
      have x2 := box_cell Zp4.out 2 (v := .slice p1 n1 f1) rfl
      have x3 := box_cell Zp4.out 3 (v := .slice p2 n2 f2) rfl
      have t0 := box_cell Zs4.out 0 (v := .int .i64 C) rfl
      have t1 := box_cell Zs4.out 1 (v := .int .i64 Z) rfl
      have t2 := box_cell Zs4.out 2 (v := .slice p3 n3 f3) rfl
      go_wp2_with fail
      go_ret
      exact ⟨rfl, B4.out⟩
  subst hS
  by_cases hn1 : n1 = 0
  case neg =>
    rw [decide_eq_false (show ¬ nonP 0 0 n1 n2 C Z n3 from fun h => hn1 (by unfold nonP at h; omega))]
    have bn1 : (((n1 : Nat) : Int) == 0) = false := beq_eq_false_iff_ne.2 (by omega)
    obtain ⟨W0, hW0⟩ : ∃ W0, W0 = w.alloc (.cells #[.int .i64 0, .int .i64 0, .slice p1 n1 f1, .slice p2 n2 f2, .int .i64 C, .int .i64 Z, .slice p3 n3 f3] 38) := ⟨_, rfl⟩
    have X0 : W0.heap[w.heap.size]? = some (.cells #[.int .i64 0, .int .i64 0, .slice p1 n1 f1, .slice p2 n2 f2, .int .i64 C, .int .i64 Z, .slice p3 n3 f3] 38 (0, 0)) := by rw [hW0]; exact laid _ _ _
    have B0 := hid (show Below w.heap.size w W0 by rw [hW0]; exact u_b1 _ _)
    have hz0 : W0.heap.size = w.heap.size + 1 := by rw [hW0]; simp
    have y0 := cell_regrown (box_cell X0 0 (v := .int .i64 0) rfl)
    have y1 := cell_regrown (box_cell X0 1 (v := .int .i64 0) rfl)
    have y2 := cell_regrown (box_cell X0 2 (v := .slice p1 n1 f1) rfl)
    have y3 := cell_regrown (box_cell X0 3 (v := .slice p2 n2 f2) rfl)
    have y4 := cell_regrown (box_cell X0 4 (v := .int .i64 C) rfl)
    have y5 := cell_regrown (box_cell X0 5 (v := .int .i64 Z) rfl)
    have y6 := cell_regrown (box_cell X0 6 (v := .slice p3 n3 f3) rfl)
    clear X0
    go_enter Tryz.func75, Tryz.ntmps75
    repeat ((fail_if_success (with_reducible show Code.wp _ (Code.region 1 _ _) _ _ _)); (first | go_values | go_skip | go_guarded | go_step | go_upon | go_back | go_simp))
    rw [← hW0]
    clear hW0
    refine wp_plan 7 (.pull [(0, 4)] (.fork 4 (.step 5 (.step 6 (.step 7 .done))) 5 (.step 4 (.step 6 (.step 7 .done))))) (by kernel_rfl) (by kernel_rfl) ?_
    intro V0 hw0
    have hbq := of_class hw0
    have hz1 := hbq.size
    refine pln_pull ?_
    simp only [cutOut, List.take_succ_cons, List.take_zero, List.drop_zero, List.append_nil]
    repeat (first | go_big_quiet_step (fail) | quiet_step (fail))
    try refine wpQuiet_nil ?_
    clear y0 y1 y2 y3 y4 y5 y6
    refine pln_fork ?_ ?_
    · refine pln_step rfl (by omega) (fun K hK => ?_)
      go_simp
      refine hK _ _ (class_of (u_cat hbq (u_b1 _ _))) ?_
      clear hK K
      refine pln_step rfl (by omega) (fun K hK => ?_)
      go_simp
      refine hK _ _ (class_of (u_cat hbq (u_b2 _ _ _))) ?_
      clear hK K
      obtain ⟨V2, hV2⟩ : ∃ V2, V2 = (V0.alloc (.cells #[.int .i64 0, .int .i64 0, .slice none 0 0, .slice none 0 0] 33)).alloc (.cells #[.int .i64 0, .int .i64 0, .slice none 0 0] 36) := ⟨_, rfl⟩
      have B2 := hid (show Below w.heap.size w V2 by rw [hV2]; exact u_cat (u_cat B0.out hbq) (u_b2 _ _ _))
      have C2 := hid (show Below W0.heap.size W0 V2 by rw [hV2]; exact u_cat hbq (u_b2 _ _ _))
      have Zp := hid (show V2.heap[V0.heap.size]? = some (.cells #[.int .i64 0, .int .i64 0, .slice none 0 0, .slice none 0 0] 33 (0, 0)) by rw [hV2]; exact kept (laid _ _ _) (u_b1 _ _))
      have Zs := hid (show V2.heap[V0.heap.size + 1]? = some (.cells #[.int .i64 0, .int .i64 0, .slice none 0 0] 36 (0, 0)) by rw [hV2]; exact u_laid _ _ _ (by simp))
      rw [← hV2]
      clear hV2
      have x0 := box_cell Zp.out 0 (v := .int .i64 0) rfl
      have x1 := box_cell Zp.out 1 (v := .int .i64 0) rfl
      have x2 := box_cell Zp.out 2 (v := .slice none 0 0) rfl
      have x3 := box_cell Zp.out 3 (v := .slice none 0 0) rfl
      have fx0 := box_frozen Zp.out 0
      have fx1 := box_frozen Zp.out 1
      have fx2 := box_frozen Zp.out 2
      have fx3 := box_frozen Zp.out 3
      refine pln_step rfl (by omega) (fun K hK => ?_)
      go_simp
      refine hK _ _ (class_of (Below.setCell (p := ⟨V0.heap.size, 3, none⟩) (Below.setCell (p := ⟨V0.heap.size, 2, none⟩) (Below.setCell (p := ⟨V0.heap.size, 1, none⟩) (Below.setCell (p := ⟨V0.heap.size, 0, none⟩) C2.out (by show _ ≤ V0.heap.size; omega) _) (by show _ ≤ V0.heap.size; omega) _) (by show _ ≤ V0.heap.size; omega) _) (by show _ ≤ V0.heap.size; omega) _)) ?_
      clear hK K x0 x1 x2 x3 fx0 fx1 fx2 fx3
      obtain ⟨W3, hW3⟩ : ∃ W3, W3 = ((((V2.setCell ⟨V0.heap.size, 0, none⟩ (.int .i64 0)).setCell ⟨V0.heap.size, 1, none⟩ (.int .i64 0)).setCell ⟨V0.heap.size, 2, none⟩ (.slice p1 n1 f1)).setCell ⟨V0.heap.size, 3, none⟩ (.slice p2 n2 f2)) := ⟨_, rfl⟩
      have Zp3 := hid (show W3.heap[V0.heap.size]? = some (.cells #[.int .i64 0, .int .i64 0, .slice p1 n1 f1, .slice p2 n2 f2] 33 (0, 0)) by rw [hW3]; exact (set_block (set_block (set_block (set_block Zp.out 0 _) 1 _) 2 _) 3 _))
      have Zs3 := hid (show W3.heap[V0.heap.size + 1]? = some (.cells #[.int .i64 0, .int .i64 0, .slice none 0 0] 36 (0, 0)) by rw [hW3]; exact (set_other (set_other (set_other (set_other Zs.out (by omega) _ _) (by omega) _ _) (by omega) _ _) (by omega) _ _))
      have B3 := hid (show Below w.heap.size w W3 by rw [hW3]; exact (Below.setCell (p := ⟨V0.heap.size, 3, none⟩) (Below.setCell (p := ⟨V0.heap.size, 2, none⟩) (Below.setCell (p := ⟨V0.heap.size, 1, none⟩) (Below.setCell (p := ⟨V0.heap.size, 0, none⟩) B2.out (by show _ ≤ V0.heap.size; omega) _) (by show _ ≤ V0.heap.size; omega) _) (by show _ ≤ V0.heap.size; omega) _) (by show _ ≤ V0.heap.size; omega) _))
      rw [← hW3]
      clear hW3 Zp Zs B2
      have x0 := box_cell Zs3.out 0 (v := .int .i64 0) rfl
      have x1 := box_cell Zs3.out 1 (v := .int .i64 0) rfl
      have x2 := box_cell Zs3.out 2 (v := .slice none 0 0) rfl
      have fx0 := box_frozen Zs3.out 0
      have fx1 := box_frozen Zs3.out 1
      have fx2 := box_frozen Zs3.out 2
      refine pln_last rfl (by omega) (fun K hK => ?_)
      go_simp
      refine hK _ _ ?_
      clear hK K x0 x1 x2 fx0 fx1 fx2
      obtain ⟨W4, hW4⟩ : ∃ W4, W4 = (((W3.setCell ⟨V0.heap.size + 1, 0, none⟩ (.int .i64 C)).setCell ⟨V0.heap.size + 1, 1, none⟩ (.int .i64 Z)).setCell ⟨V0.heap.size + 1, 2, none⟩ (.slice p3 n3 f3)) := ⟨_, rfl⟩
      have Zp4 := hid (show W4.heap[V0.heap.size]? = some (.cells #[.int .i64 0, .int .i64 0, .slice p1 n1 f1, .slice p2 n2 f2] 33 (0, 0)) by rw [hW4]; exact (set_other (set_other (set_other Zp3.out (by omega) _ _) (by omega) _ _) (by omega) _ _))
      have Zs4 := hid (show W4.heap[V0.heap.size + 1]? = some (.cells #[.int .i64 C, .int .i64 Z, .slice p3 n3 f3] 36 (0, 0)) by rw [hW4]; exact (set_block (set_block (set_block Zs3.out 0 _) 1 _) 2 _))
      have B4 := hid (show Below w.heap.size w W4 by rw [hW4]; exact (Below.setCell (p := ⟨V0.heap.size + 1, 2, none⟩) (Below.setCell (p := ⟨V0.heap.size + 1, 1, none⟩) (Below.setCell (p := ⟨V0.heap.size + 1, 0, none⟩) B3.out (by show _ ≤ V0.heap.size + 1; omega) _) (by show _ ≤ V0.heap.size + 1; omega) _) (by show _ ≤ V0.heap.size + 1; omega) _))
      rw [← hW4]
      clear hW4 Zp3 Zs3 B3
      refine pln_done ?_
      have x0 := box_cell Zp4.out 0 (v := .int .i64 0) rfl
      have x1 := box_cell Zp4.out 1 (v := .int .i64 0) rfl
      have x2 := box_cell Zp4.out 2 (v := .slice p1 n1 f1) rfl
      have x3 := box_cell Zp4.out 3 (v := .slice p2 n2 f2) rfl
      have t0 := box_cell Zs4.out 0 (v := .int .i64 C) rfl
      have t1 := box_cell Zs4.out 1 (v := .int .i64 Z) rfl
      have t2 := box_cell Zs4.out 2 (v := .slice p3 n3 f3) rfl
      go_wp2_with fail
      go_ret
      exact ⟨rfl, B4.out⟩
    · refine pln_step rfl (by omega) (fun K hK => ?_)
      go_simp
      refine hK _ _ (class_of (u_cat hbq (u_b1 _ _))) ?_
      clear hK K
      refine pln_step rfl (by omega) (fun K hK => ?_)
      go_simp
      refine hK _ _ (class_of (u_cat hbq (u_b2 _ _ _))) ?_
      clear hK K
      obtain ⟨V2, hV2⟩ : ∃ V2, V2 = (V0.alloc (.cells #[.int .i64 0, .int .i64 0, .slice none 0 0] 36)).alloc (.cells #[.int .i64 0, .int .i64 0, .slice none 0 0, .slice none 0 0] 33) := ⟨_, rfl⟩
      have B2 := hid (show Below w.heap.size w V2 by rw [hV2]; exact u_cat (u_cat B0.out hbq) (u_b2 _ _ _))
      have C2 := hid (show Below W0.heap.size W0 V2 by rw [hV2]; exact u_cat hbq (u_b2 _ _ _))
      have Zs := hid (show V2.heap[V0.heap.size]? = some (.cells #[.int .i64 0, .int .i64 0, .slice none 0 0] 36 (0, 0)) by rw [hV2]; exact kept (laid _ _ _) (u_b1 _ _))
      have Zp := hid (show V2.heap[V0.heap.size + 1]? = some (.cells #[.int .i64 0, .int .i64 0, .slice none 0 0, .slice none 0 0] 33 (0, 0)) by rw [hV2]; exact u_laid _ _ _ (by simp))
      rw [← hV2]
      clear hV2
      have x0 := box_cell Zp.out 0 (v := .int .i64 0) rfl
      have x1 := box_cell Zp.out 1 (v := .int .i64 0) rfl
      have x2 := box_cell Zp.out 2 (v := .slice none 0 0) rfl
      have x3 := box_cell Zp.out 3 (v := .slice none 0 0) rfl
      have fx0 := box_frozen Zp.out 0
      have fx1 := box_frozen Zp.out 1
      have fx2 := box_frozen Zp.out 2
      have fx3 := box_frozen Zp.out 3
      refine pln_step rfl (by omega) (fun K hK => ?_)
      go_simp
      refine hK _ _ (class_of (Below.setCell (p := ⟨V0.heap.size + 1, 3, none⟩) (Below.setCell (p := ⟨V0.heap.size + 1, 2, none⟩) (Below.setCell (p := ⟨V0.heap.size + 1, 1, none⟩) (Below.setCell (p := ⟨V0.heap.size + 1, 0, none⟩) C2.out (by show _ ≤ V0.heap.size + 1; omega) _) (by show _ ≤ V0.heap.size + 1; omega) _) (by show _ ≤ V0.heap.size + 1; omega) _) (by show _ ≤ V0.heap.size + 1; omega) _)) ?_
      clear hK K x0 x1 x2 x3 fx0 fx1 fx2 fx3
      obtain ⟨W3, hW3⟩ : ∃ W3, W3 = ((((V2.setCell ⟨V0.heap.size + 1, 0, none⟩ (.int .i64 0)).setCell ⟨V0.heap.size + 1, 1, none⟩ (.int .i64 0)).setCell ⟨V0.heap.size + 1, 2, none⟩ (.slice p1 n1 f1)).setCell ⟨V0.heap.size + 1, 3, none⟩ (.slice p2 n2 f2)) := ⟨_, rfl⟩
      have Zp3 := hid (show W3.heap[V0.heap.size + 1]? = some (.cells #[.int .i64 0, .int .i64 0, .slice p1 n1 f1, .slice p2 n2 f2] 33 (0, 0)) by rw [hW3]; exact (set_block (set_block (set_block (set_block Zp.out 0 _) 1 _) 2 _) 3 _))
      have Zs3 := hid (show W3.heap[V0.heap.size]? = some (.cells #[.int .i64 0, .int .i64 0, .slice none 0 0] 36 (0, 0)) by rw [hW3]; exact (set_other (set_other (set_other (set_other Zs.out (by omega) _ _) (by omega) _ _) (by omega) _ _) (by omega) _ _))
      have B3 := hid (show Below w.heap.size w W3 by rw [hW3]; exact (Below.setCell (p := ⟨V0.heap.size + 1, 3, none⟩) (Below.setCell (p := ⟨V0.heap.size + 1, 2, none⟩) (Below.setCell (p := ⟨V0.heap.size + 1, 1, none⟩) (Below.setCell (p := ⟨V0.heap.size + 1, 0, none⟩) B2.out (by show _ ≤ V0.heap.size + 1; omega) _) (by show _ ≤ V0.heap.size + 1; omega) _) (by show _ ≤ V0.heap.size + 1; omega) _) (by show _ ≤ V0.heap.size + 1; omega) _))
      rw [← hW3]
      clear hW3 Zp Zs B2
      have x0 := box_cell Zs3.out 0 (v := .int .i64 0) rfl
      have x1 := box_cell Zs3.out 1 (v := .int .i64 0) rfl
      have x2 := box_cell Zs3.out 2 (v := .slice none 0 0) rfl
      have fx0 := box_frozen Zs3.out 0
      have fx1 := box_frozen Zs3.out 1
      have fx2 := box_frozen Zs3.out 2
      refine pln_last rfl (by omega) (fun K hK => ?_)
      go_simp
      refine hK _ _ ?_
      clear hK K x0 x1 x2 fx0 fx1 fx2
      obtain ⟨W4, hW4⟩ : ∃ W4, W4 = (((W3.setCell ⟨V0.heap.size, 0, none⟩ (.int .i64 C)).setCell ⟨V0.heap.size, 1, none⟩ (.int .i64 Z)).setCell ⟨V0.heap.size, 2, none⟩ (.slice p3 n3 f3)) := ⟨_, rfl⟩
      have Zp4 := hid (show W4.heap[V0.heap.size + 1]? = some (.cells #[.int .i64 0, .int .i64 0, .slice p1 n1 f1, .slice p2 n2 f2] 33 (0, 0)) by rw [hW4]; exact (set_other (set_other (set_other Zp3.out (by omega) _ _) (by omega) _ _) (by omega) _ _))
      have Zs4 := hid (show W4.heap[V0.heap.size]? = some (.cells #[.int .i64 C, .int .i64 Z, .slice p3 n3 f3] 36 (0, 0)) by rw [hW4]; exact (set_block (set_block (set_block Zs3.out 0 _) 1 _) 2 _))
      have B4 := hid (show Below w.heap.size w W4 by rw [hW4]; exact (Below.setCell (p := ⟨V0.heap.size, 2, none⟩) (Below.setCell (p := ⟨V0.heap.size, 1, none⟩) (Below.setCell (p := ⟨V0.heap.size, 0, none⟩) B3.out (by show _ ≤ V0.heap.size; omega) _) (by show _ ≤ V0.heap.size; omega) _) (by show _ ≤ V0.heap.size; omega) _))
      rw [← hW4]
      clear hW4 Zp3 Zs3 B3
      refine pln_done ?_
      have x0 := box_cell Zp4.out 0 (v := .int .i64 0) rfl
      have x1 := box_cell Zp4.out 1 (v := .int .i64 0) rfl
      have x2 := box_cell Zp4.out 2 (v := .slice p1 n1 f1) rfl
      have x3 := box_cell Zp4.out 3 (v := .slice p2 n2 f2) rfl
      have t0 := box_cell Zs4.out 0 (v := .int .i64 C) rfl
      have t1 := box_cell Zs4.out 1 (v := .int .i64 Z) rfl
      have t2 := box_cell Zs4.out 2 (v := .slice p3 n3 f3) rfl
      go_wp2_with fail
      go_ret
      exact ⟨rfl, B4.out⟩
  subst hn1
  by_cases hn2 : n2 = 0
  case neg =>
    rw [decide_eq_false (show ¬ nonP 0 0 0 n2 C Z n3 from fun h => hn2 (by unfold nonP at h; omega))]
    have bn2 : (((n2 : Nat) : Int) == 0) = false := beq_eq_false_iff_ne.2 (by omega)
    obtain ⟨W0, hW0⟩ : ∃ W0, W0 = w.alloc (.cells #[.int .i64 0, .int .i64 0, .slice p1 0 f1, .slice p2 n2 f2, .int .i64 C, .int .i64 Z, .slice p3 n3 f3] 38) := ⟨_, rfl⟩
    have X0 : W0.heap[w.heap.size]? = some (.cells #[.int .i64 0, .int .i64 0, .slice p1 0 f1, .slice p2 n2 f2, .int .i64 C, .int .i64 Z, .slice p3 n3 f3] 38 (0, 0)) := by rw [hW0]; exact laid _ _ _
    have B0 := hid (show Below w.heap.size w W0 by rw [hW0]; exact u_b1 _ _)
    have hz0 : W0.heap.size = w.heap.size + 1 := by rw [hW0]; simp
    have y0 := cell_regrown (box_cell X0 0 (v := .int .i64 0) rfl)
    have y1 := cell_regrown (box_cell X0 1 (v := .int .i64 0) rfl)
    have y2 := cell_regrown (box_cell X0 2 (v := .slice p1 0 f1) rfl)
    have y3 := cell_regrown (box_cell X0 3 (v := .slice p2 n2 f2) rfl)
    have y4 := cell_regrown (box_cell X0 4 (v := .int .i64 C) rfl)
    have y5 := cell_regrown (box_cell X0 5 (v := .int .i64 Z) rfl)
    have y6 := cell_regrown (box_cell X0 6 (v := .slice p3 n3 f3) rfl)
    clear X0
    go_enter Tryz.func75, Tryz.ntmps75
    repeat ((fail_if_success (with_reducible show Code.wp _ (Code.region 1 _ _) _ _ _)); (first | go_values | go_skip | go_guarded | go_step | go_upon | go_back | go_simp))
    rw [← hW0]
    clear hW0
    refine wp_plan 7 (.pull [(0, 4)] (.fork 4 (.step 5 (.step 6 (.step 7 .done))) 5 (.step 4 (.step 6 (.step 7 .done))))) (by kernel_rfl) (by kernel_rfl) ?_
    intro V0 hw0
    have hbq := of_class hw0
    have hz1 := hbq.size
    refine pln_pull ?_
    simp only [cutOut, List.take_succ_cons, List.take_zero, List.drop_zero, List.append_nil]
    repeat (first | go_big_quiet_step (fail) | quiet_step (fail))
    try refine wpQuiet_nil ?_
    clear y0 y1 y2 y3 y4 y5 y6
    refine pln_fork ?_ ?_
    · refine pln_step rfl (by omega) (fun K hK => ?_)
      go_simp
      refine hK _ _ (class_of (u_cat hbq (u_b1 _ _))) ?_
      clear hK K
      refine pln_step rfl (by omega) (fun K hK => ?_)
      go_simp
      refine hK _ _ (class_of (u_cat hbq (u_b2 _ _ _))) ?_
      clear hK K
      obtain ⟨V2, hV2⟩ : ∃ V2, V2 = (V0.alloc (.cells #[.int .i64 0, .int .i64 0, .slice none 0 0, .slice none 0 0] 33)).alloc (.cells #[.int .i64 0, .int .i64 0, .slice none 0 0] 36) := ⟨_, rfl⟩
      have B2 := hid (show Below w.heap.size w V2 by rw [hV2]; exact u_cat (u_cat B0.out hbq) (u_b2 _ _ _))
      have C2 := hid (show Below W0.heap.size W0 V2 by rw [hV2]; exact u_cat hbq (u_b2 _ _ _))
      have Zp := hid (show V2.heap[V0.heap.size]? = some (.cells #[.int .i64 0, .int .i64 0, .slice none 0 0, .slice none 0 0] 33 (0, 0)) by rw [hV2]; exact kept (laid _ _ _) (u_b1 _ _))
      have Zs := hid (show V2.heap[V0.heap.size + 1]? = some (.cells #[.int .i64 0, .int .i64 0, .slice none 0 0] 36 (0, 0)) by rw [hV2]; exact u_laid _ _ _ (by simp))
      rw [← hV2]
      clear hV2
      have x0 := box_cell Zp.out 0 (v := .int .i64 0) rfl
      have x1 := box_cell Zp.out 1 (v := .int .i64 0) rfl
      have x2 := box_cell Zp.out 2 (v := .slice none 0 0) rfl
      have x3 := box_cell Zp.out 3 (v := .slice none 0 0) rfl
      have fx0 := box_frozen Zp.out 0
      have fx1 := box_frozen Zp.out 1
      have fx2 := box_frozen Zp.out 2
      have fx3 := box_frozen Zp.out 3
      refine pln_step rfl (by omega) (fun K hK => ?_)
      go_simp
      refine hK _ _ (class_of (Below.setCell (p := ⟨V0.heap.size, 3, none⟩) (Below.setCell (p := ⟨V0.heap.size, 2, none⟩) (Below.setCell (p := ⟨V0.heap.size, 1, none⟩) (Below.setCell (p := ⟨V0.heap.size, 0, none⟩) C2.out (by show _ ≤ V0.heap.size; omega) _) (by show _ ≤ V0.heap.size; omega) _) (by show _ ≤ V0.heap.size; omega) _) (by show _ ≤ V0.heap.size; omega) _)) ?_
      clear hK K x0 x1 x2 x3 fx0 fx1 fx2 fx3
      obtain ⟨W3, hW3⟩ : ∃ W3, W3 = ((((V2.setCell ⟨V0.heap.size, 0, none⟩ (.int .i64 0)).setCell ⟨V0.heap.size, 1, none⟩ (.int .i64 0)).setCell ⟨V0.heap.size, 2, none⟩ (.slice p1 0 f1)).setCell ⟨V0.heap.size, 3, none⟩ (.slice p2 n2 f2)) := ⟨_, rfl⟩
      have Zp3 := hid (show W3.heap[V0.heap.size]? = some (.cells #[.int .i64 0, .int .i64 0, .slice p1 0 f1, .slice p2 n2 f2] 33 (0, 0)) by rw [hW3]; exact (set_block (set_block (set_block (set_block Zp.out 0 _) 1 _) 2 _) 3 _))
      have Zs3 := hid (show W3.heap[V0.heap.size + 1]? = some (.cells #[.int .i64 0, .int .i64 0, .slice none 0 0] 36 (0, 0)) by rw [hW3]; exact (set_other (set_other (set_other (set_other Zs.out (by omega) _ _) (by omega) _ _) (by omega) _ _) (by omega) _ _))
      have B3 := hid (show Below w.heap.size w W3 by rw [hW3]; exact (Below.setCell (p := ⟨V0.heap.size, 3, none⟩) (Below.setCell (p := ⟨V0.heap.size, 2, none⟩) (Below.setCell (p := ⟨V0.heap.size, 1, none⟩) (Below.setCell (p := ⟨V0.heap.size, 0, none⟩) B2.out (by show _ ≤ V0.heap.size; omega) _) (by show _ ≤ V0.heap.size; omega) _) (by show _ ≤ V0.heap.size; omega) _) (by show _ ≤ V0.heap.size; omega) _))
      rw [← hW3]
      clear hW3 Zp Zs B2
      have x0 := box_cell Zs3.out 0 (v := .int .i64 0) rfl
      have x1 := box_cell Zs3.out 1 (v := .int .i64 0) rfl
      have x2 := box_cell Zs3.out 2 (v := .slice none 0 0) rfl
      have fx0 := box_frozen Zs3.out 0
      have fx1 := box_frozen Zs3.out 1
      have fx2 := box_frozen Zs3.out 2
      refine pln_last rfl (by omega) (fun K hK => ?_)
      go_simp
      refine hK _ _ ?_
      clear hK K x0 x1 x2 fx0 fx1 fx2
      obtain ⟨W4, hW4⟩ : ∃ W4, W4 = (((W3.setCell ⟨V0.heap.size + 1, 0, none⟩ (.int .i64 C)).setCell ⟨V0.heap.size + 1, 1, none⟩ (.int .i64 Z)).setCell ⟨V0.heap.size + 1, 2, none⟩ (.slice p3 n3 f3)) := ⟨_, rfl⟩
      have Zp4 := hid (show W4.heap[V0.heap.size]? = some (.cells #[.int .i64 0, .int .i64 0, .slice p1 0 f1, .slice p2 n2 f2] 33 (0, 0)) by rw [hW4]; exact (set_other (set_other (set_other Zp3.out (by omega) _ _) (by omega) _ _) (by omega) _ _))
      have Zs4 := hid (show W4.heap[V0.heap.size + 1]? = some (.cells #[.int .i64 C, .int .i64 Z, .slice p3 n3 f3] 36 (0, 0)) by rw [hW4]; exact (set_block (set_block (set_block Zs3.out 0 _) 1 _) 2 _))
      have B4 := hid (show Below w.heap.size w W4 by rw [hW4]; exact (Below.setCell (p := ⟨V0.heap.size + 1, 2, none⟩) (Below.setCell (p := ⟨V0.heap.size + 1, 1, none⟩) (Below.setCell (p := ⟨V0.heap.size + 1, 0, none⟩) B3.out (by show _ ≤ V0.heap.size + 1; omega) _) (by show _ ≤ V0.heap.size + 1; omega) _) (by show _ ≤ V0.heap.size + 1; omega) _))
      rw [← hW4]
      clear hW4 Zp3 Zs3 B3
      refine pln_done ?_
      have x0 := box_cell Zp4.out 0 (v := .int .i64 0) rfl
      have x1 := box_cell Zp4.out 1 (v := .int .i64 0) rfl
      have x2 := box_cell Zp4.out 2 (v := .slice p1 0 f1) rfl
      have x3 := box_cell Zp4.out 3 (v := .slice p2 n2 f2) rfl
      have t0 := box_cell Zs4.out 0 (v := .int .i64 C) rfl
      have t1 := box_cell Zs4.out 1 (v := .int .i64 Z) rfl
      have t2 := box_cell Zs4.out 2 (v := .slice p3 n3 f3) rfl
      go_wp2_with fail
      go_ret
      exact ⟨rfl, B4.out⟩
    · refine pln_step rfl (by omega) (fun K hK => ?_)
      go_simp
      refine hK _ _ (class_of (u_cat hbq (u_b1 _ _))) ?_
      clear hK K
      refine pln_step rfl (by omega) (fun K hK => ?_)
      go_simp
      refine hK _ _ (class_of (u_cat hbq (u_b2 _ _ _))) ?_
      clear hK K
      obtain ⟨V2, hV2⟩ : ∃ V2, V2 = (V0.alloc (.cells #[.int .i64 0, .int .i64 0, .slice none 0 0] 36)).alloc (.cells #[.int .i64 0, .int .i64 0, .slice none 0 0, .slice none 0 0] 33) := ⟨_, rfl⟩
      have B2 := hid (show Below w.heap.size w V2 by rw [hV2]; exact u_cat (u_cat B0.out hbq) (u_b2 _ _ _))
      have C2 := hid (show Below W0.heap.size W0 V2 by rw [hV2]; exact u_cat hbq (u_b2 _ _ _))
      have Zs := hid (show V2.heap[V0.heap.size]? = some (.cells #[.int .i64 0, .int .i64 0, .slice none 0 0] 36 (0, 0)) by rw [hV2]; exact kept (laid _ _ _) (u_b1 _ _))
      have Zp := hid (show V2.heap[V0.heap.size + 1]? = some (.cells #[.int .i64 0, .int .i64 0, .slice none 0 0, .slice none 0 0] 33 (0, 0)) by rw [hV2]; exact u_laid _ _ _ (by simp))
      rw [← hV2]
      clear hV2
      have x0 := box_cell Zp.out 0 (v := .int .i64 0) rfl
      have x1 := box_cell Zp.out 1 (v := .int .i64 0) rfl
      have x2 := box_cell Zp.out 2 (v := .slice none 0 0) rfl
      have x3 := box_cell Zp.out 3 (v := .slice none 0 0) rfl
      have fx0 := box_frozen Zp.out 0
      have fx1 := box_frozen Zp.out 1
      have fx2 := box_frozen Zp.out 2
      have fx3 := box_frozen Zp.out 3
      refine pln_step rfl (by omega) (fun K hK => ?_)
      go_simp
      refine hK _ _ (class_of (Below.setCell (p := ⟨V0.heap.size + 1, 3, none⟩) (Below.setCell (p := ⟨V0.heap.size + 1, 2, none⟩) (Below.setCell (p := ⟨V0.heap.size + 1, 1, none⟩) (Below.setCell (p := ⟨V0.heap.size + 1, 0, none⟩) C2.out (by show _ ≤ V0.heap.size + 1; omega) _) (by show _ ≤ V0.heap.size + 1; omega) _) (by show _ ≤ V0.heap.size + 1; omega) _) (by show _ ≤ V0.heap.size + 1; omega) _)) ?_
      clear hK K x0 x1 x2 x3 fx0 fx1 fx2 fx3
      obtain ⟨W3, hW3⟩ : ∃ W3, W3 = ((((V2.setCell ⟨V0.heap.size + 1, 0, none⟩ (.int .i64 0)).setCell ⟨V0.heap.size + 1, 1, none⟩ (.int .i64 0)).setCell ⟨V0.heap.size + 1, 2, none⟩ (.slice p1 0 f1)).setCell ⟨V0.heap.size + 1, 3, none⟩ (.slice p2 n2 f2)) := ⟨_, rfl⟩
      have Zp3 := hid (show W3.heap[V0.heap.size + 1]? = some (.cells #[.int .i64 0, .int .i64 0, .slice p1 0 f1, .slice p2 n2 f2] 33 (0, 0)) by rw [hW3]; exact (set_block (set_block (set_block (set_block Zp.out 0 _) 1 _) 2 _) 3 _))
      have Zs3 := hid (show W3.heap[V0.heap.size]? = some (.cells #[.int .i64 0, .int .i64 0, .slice none 0 0] 36 (0, 0)) by rw [hW3]; exact (set_other (set_other (set_other (set_other Zs.out (by omega) _ _) (by omega) _ _) (by omega) _ _) (by omega) _ _))
      have B3 := hid (show Below w.heap.size w W3 by rw [hW3]; exact (Below.setCell (p := ⟨V0.heap.size + 1, 3, none⟩) (Below.setCell (p := ⟨V0.heap.size + 1, 2, none⟩) (Below.setCell (p := ⟨V0.heap.size + 1, 1, none⟩) (Below.setCell (p := ⟨V0.heap.size + 1, 0, none⟩) B2.out (by show _ ≤ V0.heap.size + 1; omega) _) (by show _ ≤ V0.heap.size + 1; omega) _) (by show _ ≤ V0.heap.size + 1; omega) _) (by show _ ≤ V0.heap.size + 1; omega) _))
      rw [← hW3]
      clear hW3 Zp Zs B2
      have x0 := box_cell Zs3.out 0 (v := .int .i64 0) rfl
      have x1 := box_cell Zs3.out 1 (v := .int .i64 0) rfl
      have x2 := box_cell Zs3.out 2 (v := .slice none 0 0) rfl
      have fx0 := box_frozen Zs3.out 0
      have fx1 := box_frozen Zs3.out 1
      have fx2 := box_frozen Zs3.out 2
      refine pln_last rfl (by omega) (fun K hK => ?_)
      go_simp
      refine hK _ _ ?_
      clear hK K x0 x1 x2 fx0 fx1 fx2
      obtain ⟨W4, hW4⟩ : ∃ W4, W4 = (((W3.setCell ⟨V0.heap.size, 0, none⟩ (.int .i64 C)).setCell ⟨V0.heap.size, 1, none⟩ (.int .i64 Z)).setCell ⟨V0.heap.size, 2, none⟩ (.slice p3 n3 f3)) := ⟨_, rfl⟩
      have Zp4 := hid (show W4.heap[V0.heap.size + 1]? = some (.cells #[.int .i64 0, .int .i64 0, .slice p1 0 f1, .slice p2 n2 f2] 33 (0, 0)) by rw [hW4]; exact (set_other (set_other (set_other Zp3.out (by omega) _ _) (by omega) _ _) (by omega) _ _))
      have Zs4 := hid (show W4.heap[V0.heap.size]? = some (.cells #[.int .i64 C, .int .i64 Z, .slice p3 n3 f3] 36 (0, 0)) by rw [hW4]; exact (set_block (set_block (set_block Zs3.out 0 _) 1 _) 2 _))
      have B4 := hid (show Below w.heap.size w W4 by rw [hW4]; exact (Below.setCell (p := ⟨V0.heap.size, 2, none⟩) (Below.setCell (p := ⟨V0.heap.size, 1, none⟩) (Below.setCell (p := ⟨V0.heap.size, 0, none⟩) B3.out (by show _ ≤ V0.heap.size; omega) _) (by show _ ≤ V0.heap.size; omega) _) (by show _ ≤ V0.heap.size; omega) _))
      rw [← hW4]
      clear hW4 Zp3 Zs3 B3
      refine pln_done ?_
      have x0 := box_cell Zp4.out 0 (v := .int .i64 0) rfl
      have x1 := box_cell Zp4.out 1 (v := .int .i64 0) rfl
      have x2 := box_cell Zp4.out 2 (v := .slice p1 0 f1) rfl
      have x3 := box_cell Zp4.out 3 (v := .slice p2 n2 f2) rfl
      have t0 := box_cell Zs4.out 0 (v := .int .i64 C) rfl
      have t1 := box_cell Zs4.out 1 (v := .int .i64 Z) rfl
      have t2 := box_cell Zs4.out 2 (v := .slice p3 n3 f3) rfl
      go_wp2_with fail
      go_ret
      exact ⟨rfl, B4.out⟩
  subst hn2
  by_cases hC : C = 0
  case neg =>
    rw [decide_eq_false (show ¬ nonP 0 0 0 0 C Z n3 from fun h => hC (by unfold nonP at h; omega))]
    have bC : (C == 0) = false := beq_eq_false_iff_ne.2 hC
    obtain ⟨W0, hW0⟩ : ∃ W0, W0 = w.alloc (.cells #[.int .i64 0, .int .i64 0, .slice p1 0 f1, .slice p2 0 f2, .int .i64 C, .int .i64 Z, .slice p3 n3 f3] 38) := ⟨_, rfl⟩
    have X0 : W0.heap[w.heap.size]? = some (.cells #[.int .i64 0, .int .i64 0, .slice p1 0 f1, .slice p2 0 f2, .int .i64 C, .int .i64 Z, .slice p3 n3 f3] 38 (0, 0)) := by rw [hW0]; exact laid _ _ _
    have B0 := hid (show Below w.heap.size w W0 by rw [hW0]; exact u_b1 _ _)
    have hz0 : W0.heap.size = w.heap.size + 1 := by rw [hW0]; simp
    have y0 := cell_regrown (box_cell X0 0 (v := .int .i64 0) rfl)
    have y1 := cell_regrown (box_cell X0 1 (v := .int .i64 0) rfl)
    have y2 := cell_regrown (box_cell X0 2 (v := .slice p1 0 f1) rfl)
    have y3 := cell_regrown (box_cell X0 3 (v := .slice p2 0 f2) rfl)
    have y4 := cell_regrown (box_cell X0 4 (v := .int .i64 C) rfl)
    have y5 := cell_regrown (box_cell X0 5 (v := .int .i64 Z) rfl)
    have y6 := cell_regrown (box_cell X0 6 (v := .slice p3 n3 f3) rfl)
    clear X0
    go_enter Tryz.func75, Tryz.ntmps75
    repeat ((fail_if_success (with_reducible show Code.wp _ (Code.region 1 _ _) _ _ _)); (first | go_values | go_skip | go_guarded | go_step | go_upon | go_back | go_simp))
    rw [← hW0]
    clear hW0
    refine wp_plan 7 (.pull [(0, 4)] (.fork 4 (.step 5 (.step 6 (.step 7 .done))) 5 (.step 4 (.step 6 (.step 7 .done))))) (by kernel_rfl) (by kernel_rfl) ?_
    intro V0 hw0
    have hbq := of_class hw0
    have hz1 := hbq.size
    refine pln_pull ?_
    simp only [cutOut, List.take_succ_cons, List.take_zero, List.drop_zero, List.append_nil]
    repeat (first | go_big_quiet_step (fail) | quiet_step (fail))
    try refine wpQuiet_nil ?_
    clear y0 y1 y2 y3 y4 y5 y6
    refine pln_fork ?_ ?_
    · refine pln_step rfl (by omega) (fun K hK => ?_)
      go_simp
      refine hK _ _ (class_of (u_cat hbq (u_b1 _ _))) ?_
      clear hK K
      refine pln_step rfl (by omega) (fun K hK => ?_)
      go_simp
      refine hK _ _ (class_of (u_cat hbq (u_b2 _ _ _))) ?_
      clear hK K
      obtain ⟨V2, hV2⟩ : ∃ V2, V2 = (V0.alloc (.cells #[.int .i64 0, .int .i64 0, .slice none 0 0, .slice none 0 0] 33)).alloc (.cells #[.int .i64 0, .int .i64 0, .slice none 0 0] 36) := ⟨_, rfl⟩
      have B2 := hid (show Below w.heap.size w V2 by rw [hV2]; exact u_cat (u_cat B0.out hbq) (u_b2 _ _ _))
      have C2 := hid (show Below W0.heap.size W0 V2 by rw [hV2]; exact u_cat hbq (u_b2 _ _ _))
      have Zp := hid (show V2.heap[V0.heap.size]? = some (.cells #[.int .i64 0, .int .i64 0, .slice none 0 0, .slice none 0 0] 33 (0, 0)) by rw [hV2]; exact kept (laid _ _ _) (u_b1 _ _))
      have Zs := hid (show V2.heap[V0.heap.size + 1]? = some (.cells #[.int .i64 0, .int .i64 0, .slice none 0 0] 36 (0, 0)) by rw [hV2]; exact u_laid _ _ _ (by simp))
      rw [← hV2]
      clear hV2
      have x0 := box_cell Zp.out 0 (v := .int .i64 0) rfl
      have x1 := box_cell Zp.out 1 (v := .int .i64 0) rfl
      have x2 := box_cell Zp.out 2 (v := .slice none 0 0) rfl
      have x3 := box_cell Zp.out 3 (v := .slice none 0 0) rfl
      have fx0 := box_frozen Zp.out 0
      have fx1 := box_frozen Zp.out 1
      have fx2 := box_frozen Zp.out 2
      have fx3 := box_frozen Zp.out 3
      refine pln_step rfl (by omega) (fun K hK => ?_)
      go_simp
      refine hK _ _ (class_of (Below.setCell (p := ⟨V0.heap.size, 3, none⟩) (Below.setCell (p := ⟨V0.heap.size, 2, none⟩) (Below.setCell (p := ⟨V0.heap.size, 1, none⟩) (Below.setCell (p := ⟨V0.heap.size, 0, none⟩) C2.out (by show _ ≤ V0.heap.size; omega) _) (by show _ ≤ V0.heap.size; omega) _) (by show _ ≤ V0.heap.size; omega) _) (by show _ ≤ V0.heap.size; omega) _)) ?_
      clear hK K x0 x1 x2 x3 fx0 fx1 fx2 fx3
      obtain ⟨W3, hW3⟩ : ∃ W3, W3 = ((((V2.setCell ⟨V0.heap.size, 0, none⟩ (.int .i64 0)).setCell ⟨V0.heap.size, 1, none⟩ (.int .i64 0)).setCell ⟨V0.heap.size, 2, none⟩ (.slice p1 0 f1)).setCell ⟨V0.heap.size, 3, none⟩ (.slice p2 0 f2)) := ⟨_, rfl⟩
      have Zp3 := hid (show W3.heap[V0.heap.size]? = some (.cells #[.int .i64 0, .int .i64 0, .slice p1 0 f1, .slice p2 0 f2] 33 (0, 0)) by rw [hW3]; exact (set_block (set_block (set_block (set_block Zp.out 0 _) 1 _) 2 _) 3 _))
      have Zs3 := hid (show W3.heap[V0.heap.size + 1]? = some (.cells #[.int .i64 0, .int .i64 0, .slice none 0 0] 36 (0, 0)) by rw [hW3]; exact (set_other (set_other (set_other (set_other Zs.out (by omega) _ _) (by omega) _ _) (by omega) _ _) (by omega) _ _))
      have B3 := hid (show Below w.heap.size w W3 by rw [hW3]; exact (Below.setCell (p := ⟨V0.heap.size, 3, none⟩) (Below.setCell (p := ⟨V0.heap.size, 2, none⟩) (Below.setCell (p := ⟨V0.heap.size, 1, none⟩) (Below.setCell (p := ⟨V0.heap.size, 0, none⟩) B2.out (by show _ ≤ V0.heap.size; omega) _) (by show _ ≤ V0.heap.size; omega) _) (by show _ ≤ V0.heap.size; omega) _) (by show _ ≤ V0.heap.size; omega) _))
      rw [← hW3]
      clear hW3 Zp Zs B2
      have x0 := box_cell Zs3.out 0 (v := .int .i64 0) rfl
      have x1 := box_cell Zs3.out 1 (v := .int .i64 0) rfl
      have x2 := box_cell Zs3.out 2 (v := .slice none 0 0) rfl
      have fx0 := box_frozen Zs3.out 0
      have fx1 := box_frozen Zs3.out 1
      have fx2 := box_frozen Zs3.out 2
      refine pln_last rfl (by omega) (fun K hK => ?_)
      go_simp
      refine hK _ _ ?_
      clear hK K x0 x1 x2 fx0 fx1 fx2
      obtain ⟨W4, hW4⟩ : ∃ W4, W4 = (((W3.setCell ⟨V0.heap.size + 1, 0, none⟩ (.int .i64 C)).setCell ⟨V0.heap.size + 1, 1, none⟩ (.int .i64 Z)).setCell ⟨V0.heap.size + 1, 2, none⟩ (.slice p3 n3 f3)) := ⟨_, rfl⟩
      have Zp4 := hid (show W4.heap[V0.heap.size]? = some (.cells #[.int .i64 0, .int .i64 0, .slice p1 0 f1, .slice p2 0 f2] 33 (0, 0)) by rw [hW4]; exact (set_other (set_other (set_other Zp3.out (by omega) _ _) (by omega) _ _) (by omega) _ _))
      have Zs4 := hid (show W4.heap[V0.heap.size + 1]? = some (.cells #[.int .i64 C, .int .i64 Z, .slice p3 n3 f3] 36 (0, 0)) by rw [hW4]; exact (set_block (set_block (set_block Zs3.out 0 _) 1 _) 2 _))
      have B4 := hid (show Below w.heap.size w W4 by rw [hW4]; exact (Below.setCell (p := ⟨V0.heap.size + 1, 2, none⟩) (Below.setCell (p := ⟨V0.heap.size + 1, 1, none⟩) (Below.setCell (p := ⟨V0.heap.size + 1, 0, none⟩) B3.out (by show _ ≤ V0.heap.size + 1; omega) _) (by show _ ≤ V0.heap.size + 1; omega) _) (by show _ ≤ V0.heap.size + 1; omega) _))
      rw [← hW4]
      clear hW4 Zp3 Zs3 B3
      refine pln_done ?_
      have x0 := box_cell Zp4.out 0 (v := .int .i64 0) rfl
      have x1 := box_cell Zp4.out 1 (v := .int .i64 0) rfl
      have x2 := box_cell Zp4.out 2 (v := .slice p1 0 f1) rfl
      have x3 := box_cell Zp4.out 3 (v := .slice p2 0 f2) rfl
      have t0 := box_cell Zs4.out 0 (v := .int .i64 C) rfl
      have t1 := box_cell Zs4.out 1 (v := .int .i64 Z) rfl
      have t2 := box_cell Zs4.out 2 (v := .slice p3 n3 f3) rfl
      go_wp2_with fail
      go_ret
      exact ⟨rfl, B4.out⟩
    · refine pln_step rfl (by omega) (fun K hK => ?_)
      go_simp
      refine hK _ _ (class_of (u_cat hbq (u_b1 _ _))) ?_
      clear hK K
      refine pln_step rfl (by omega) (fun K hK => ?_)
      go_simp
      refine hK _ _ (class_of (u_cat hbq (u_b2 _ _ _))) ?_
      clear hK K
      obtain ⟨V2, hV2⟩ : ∃ V2, V2 = (V0.alloc (.cells #[.int .i64 0, .int .i64 0, .slice none 0 0] 36)).alloc (.cells #[.int .i64 0, .int .i64 0, .slice none 0 0, .slice none 0 0] 33) := ⟨_, rfl⟩
      have B2 := hid (show Below w.heap.size w V2 by rw [hV2]; exact u_cat (u_cat B0.out hbq) (u_b2 _ _ _))
      have C2 := hid (show Below W0.heap.size W0 V2 by rw [hV2]; exact u_cat hbq (u_b2 _ _ _))
      have Zs := hid (show V2.heap[V0.heap.size]? = some (.cells #[.int .i64 0, .int .i64 0, .slice none 0 0] 36 (0, 0)) by rw [hV2]; exact kept (laid _ _ _) (u_b1 _ _))
      have Zp := hid (show V2.heap[V0.heap.size + 1]? = some (.cells #[.int .i64 0, .int .i64 0, .slice none 0 0, .slice none 0 0] 33 (0, 0)) by rw [hV2]; exact u_laid _ _ _ (by simp))
      rw [← hV2]
      clear hV2
      have x0 := box_cell Zp.out 0 (v := .int .i64 0) rfl
      have x1 := box_cell Zp.out 1 (v := .int .i64 0) rfl
      have x2 := box_cell Zp.out 2 (v := .slice none 0 0) rfl
      have x3 := box_cell Zp.out 3 (v := .slice none 0 0) rfl
      have fx0 := box_frozen Zp.out 0
      have fx1 := box_frozen Zp.out 1
      have fx2 := box_frozen Zp.out 2
      have fx3 := box_frozen Zp.out 3
      refine pln_step rfl (by omega) (fun K hK => ?_)
      go_simp
      refine hK _ _ (class_of (Below.setCell (p := ⟨V0.heap.size + 1, 3, none⟩) (Below.setCell (p := ⟨V0.heap.size + 1, 2, none⟩) (Below.setCell (p := ⟨V0.heap.size + 1, 1, none⟩) (Below.setCell (p := ⟨V0.heap.size + 1, 0, none⟩) C2.out (by show _ ≤ V0.heap.size + 1; omega) _) (by show _ ≤ V0.heap.size + 1; omega) _) (by show _ ≤ V0.heap.size + 1; omega) _) (by show _ ≤ V0.heap.size + 1; omega) _)) ?_
      clear hK K x0 x1 x2 x3 fx0 fx1 fx2 fx3
      obtain ⟨W3, hW3⟩ : ∃ W3, W3 = ((((V2.setCell ⟨V0.heap.size + 1, 0, none⟩ (.int .i64 0)).setCell ⟨V0.heap.size + 1, 1, none⟩ (.int .i64 0)).setCell ⟨V0.heap.size + 1, 2, none⟩ (.slice p1 0 f1)).setCell ⟨V0.heap.size + 1, 3, none⟩ (.slice p2 0 f2)) := ⟨_, rfl⟩
      have Zp3 := hid (show W3.heap[V0.heap.size + 1]? = some (.cells #[.int .i64 0, .int .i64 0, .slice p1 0 f1, .slice p2 0 f2] 33 (0, 0)) by rw [hW3]; exact (set_block (set_block (set_block (set_block Zp.out 0 _) 1 _) 2 _) 3 _))
      have Zs3 := hid (show W3.heap[V0.heap.size]? = some (.cells #[.int .i64 0, .int .i64 0, .slice none 0 0] 36 (0, 0)) by rw [hW3]; exact (set_other (set_other (set_other (set_other Zs.out (by omega) _ _) (by omega) _ _) (by omega) _ _) (by omega) _ _))
      have B3 := hid (show Below w.heap.size w W3 by rw [hW3]; exact (Below.setCell (p := ⟨V0.heap.size + 1, 3, none⟩) (Below.setCell (p := ⟨V0.heap.size + 1, 2, none⟩) (Below.setCell (p := ⟨V0.heap.size + 1, 1, none⟩) (Below.setCell (p := ⟨V0.heap.size + 1, 0, none⟩) B2.out (by show _ ≤ V0.heap.size + 1; omega) _) (by show _ ≤ V0.heap.size + 1; omega) _) (by show _ ≤ V0.heap.size + 1; omega) _) (by show _ ≤ V0.heap.size + 1; omega) _))
      rw [← hW3]
      clear hW3 Zp Zs B2
      have x0 := box_cell Zs3.out 0 (v := .int .i64 0) rfl
      have x1 := box_cell Zs3.out 1 (v := .int .i64 0) rfl
      have x2 := box_cell Zs3.out 2 (v := .slice none 0 0) rfl
      have fx0 := box_frozen Zs3.out 0
      have fx1 := box_frozen Zs3.out 1
      have fx2 := box_frozen Zs3.out 2
      refine pln_last rfl (by omega) (fun K hK => ?_)
      go_simp
      refine hK _ _ ?_
      clear hK K x0 x1 x2 fx0 fx1 fx2
      obtain ⟨W4, hW4⟩ : ∃ W4, W4 = (((W3.setCell ⟨V0.heap.size, 0, none⟩ (.int .i64 C)).setCell ⟨V0.heap.size, 1, none⟩ (.int .i64 Z)).setCell ⟨V0.heap.size, 2, none⟩ (.slice p3 n3 f3)) := ⟨_, rfl⟩
      have Zp4 := hid (show W4.heap[V0.heap.size + 1]? = some (.cells #[.int .i64 0, .int .i64 0, .slice p1 0 f1, .slice p2 0 f2] 33 (0, 0)) by rw [hW4]; exact (set_other (set_other (set_other Zp3.out (by omega) _ _) (by omega) _ _) (by omega) _ _))
      have Zs4 := hid (show W4.heap[V0.heap.size]? = some (.cells #[.int .i64 C, .int .i64 Z, .slice p3 n3 f3] 36 (0, 0)) by rw [hW4]; exact (set_block (set_block (set_block Zs3.out 0 _) 1 _) 2 _))
      have B4 := hid (show Below w.heap.size w W4 by rw [hW4]; exact (Below.setCell (p := ⟨V0.heap.size, 2, none⟩) (Below.setCell (p := ⟨V0.heap.size, 1, none⟩) (Below.setCell (p := ⟨V0.heap.size, 0, none⟩) B3.out (by show _ ≤ V0.heap.size; omega) _) (by show _ ≤ V0.heap.size; omega) _) (by show _ ≤ V0.heap.size; omega) _))
      rw [← hW4]
      clear hW4 Zp3 Zs3 B3
      refine pln_done ?_
      have x0 := box_cell Zp4.out 0 (v := .int .i64 0) rfl
      have x1 := box_cell Zp4.out 1 (v := .int .i64 0) rfl
      have x2 := box_cell Zp4.out 2 (v := .slice p1 0 f1) rfl
      have x3 := box_cell Zp4.out 3 (v := .slice p2 0 f2) rfl
      have t0 := box_cell Zs4.out 0 (v := .int .i64 C) rfl
      have t1 := box_cell Zs4.out 1 (v := .int .i64 Z) rfl
      have t2 := box_cell Zs4.out 2 (v := .slice p3 n3 f3) rfl
      go_wp2_with fail
      go_ret
      exact ⟨rfl, B4.out⟩
  subst hC
  by_cases hZ : Z = 0
  case neg =>
    rw [decide_eq_false (show ¬ nonP 0 0 0 0 0 Z n3 from fun h => hZ (by unfold nonP at h; omega))]
    have bZ : (Z == 0) = false := beq_eq_false_iff_ne.2 hZ
    obtain ⟨W0, hW0⟩ : ∃ W0, W0 = w.alloc (.cells #[.int .i64 0, .int .i64 0, .slice p1 0 f1, .slice p2 0 f2, .int .i64 0, .int .i64 Z, .slice p3 n3 f3] 38) := ⟨_, rfl⟩
    have X0 : W0.heap[w.heap.size]? = some (.cells #[.int .i64 0, .int .i64 0, .slice p1 0 f1, .slice p2 0 f2, .int .i64 0, .int .i64 Z, .slice p3 n3 f3] 38 (0, 0)) := by rw [hW0]; exact laid _ _ _
    have B0 := hid (show Below w.heap.size w W0 by rw [hW0]; exact u_b1 _ _)
    have hz0 : W0.heap.size = w.heap.size + 1 := by rw [hW0]; simp
    have y0 := cell_regrown (box_cell X0 0 (v := .int .i64 0) rfl)
    have y1 := cell_regrown (box_cell X0 1 (v := .int .i64 0) rfl)
    have y2 := cell_regrown (box_cell X0 2 (v := .slice p1 0 f1) rfl)
    have y3 := cell_regrown (box_cell X0 3 (v := .slice p2 0 f2) rfl)
    have y4 := cell_regrown (box_cell X0 4 (v := .int .i64 0) rfl)
    have y5 := cell_regrown (box_cell X0 5 (v := .int .i64 Z) rfl)
    have y6 := cell_regrown (box_cell X0 6 (v := .slice p3 n3 f3) rfl)
    clear X0
    go_enter Tryz.func75, Tryz.ntmps75
    repeat ((fail_if_success (with_reducible show Code.wp _ (Code.region 1 _ _) _ _ _)); (first | go_values | go_skip | go_guarded | go_step | go_upon | go_back | go_simp))
    rw [← hW0]
    clear hW0
    refine wp_plan 7 (.pull [(0, 4)] (.fork 4 (.step 5 (.step 6 (.step 7 .done))) 5 (.step 4 (.step 6 (.step 7 .done))))) (by kernel_rfl) (by kernel_rfl) ?_
    intro V0 hw0
    have hbq := of_class hw0
    have hz1 := hbq.size
    refine pln_pull ?_
    simp only [cutOut, List.take_succ_cons, List.take_zero, List.drop_zero, List.append_nil]
    repeat (first | go_big_quiet_step (fail) | quiet_step (fail))
    try refine wpQuiet_nil ?_
    clear y0 y1 y2 y3 y4 y5 y6
    refine pln_fork ?_ ?_
    · refine pln_step rfl (by omega) (fun K hK => ?_)
      go_simp
      refine hK _ _ (class_of (u_cat hbq (u_b1 _ _))) ?_
      clear hK K
      refine pln_step rfl (by omega) (fun K hK => ?_)
      go_simp
      refine hK _ _ (class_of (u_cat hbq (u_b2 _ _ _))) ?_
      clear hK K
      obtain ⟨V2, hV2⟩ : ∃ V2, V2 = (V0.alloc (.cells #[.int .i64 0, .int .i64 0, .slice none 0 0, .slice none 0 0] 33)).alloc (.cells #[.int .i64 0, .int .i64 0, .slice none 0 0] 36) := ⟨_, rfl⟩
      have B2 := hid (show Below w.heap.size w V2 by rw [hV2]; exact u_cat (u_cat B0.out hbq) (u_b2 _ _ _))
      have C2 := hid (show Below W0.heap.size W0 V2 by rw [hV2]; exact u_cat hbq (u_b2 _ _ _))
      have Zp := hid (show V2.heap[V0.heap.size]? = some (.cells #[.int .i64 0, .int .i64 0, .slice none 0 0, .slice none 0 0] 33 (0, 0)) by rw [hV2]; exact kept (laid _ _ _) (u_b1 _ _))
      have Zs := hid (show V2.heap[V0.heap.size + 1]? = some (.cells #[.int .i64 0, .int .i64 0, .slice none 0 0] 36 (0, 0)) by rw [hV2]; exact u_laid _ _ _ (by simp))
      rw [← hV2]
      clear hV2
      have x0 := box_cell Zp.out 0 (v := .int .i64 0) rfl
      have x1 := box_cell Zp.out 1 (v := .int .i64 0) rfl
      have x2 := box_cell Zp.out 2 (v := .slice none 0 0) rfl
      have x3 := box_cell Zp.out 3 (v := .slice none 0 0) rfl
      have fx0 := box_frozen Zp.out 0
      have fx1 := box_frozen Zp.out 1
      have fx2 := box_frozen Zp.out 2
      have fx3 := box_frozen Zp.out 3
      refine pln_step rfl (by omega) (fun K hK => ?_)
      go_simp
      refine hK _ _ (class_of (Below.setCell (p := ⟨V0.heap.size, 3, none⟩) (Below.setCell (p := ⟨V0.heap.size, 2, none⟩) (Below.setCell (p := ⟨V0.heap.size, 1, none⟩) (Below.setCell (p := ⟨V0.heap.size, 0, none⟩) C2.out (by show _ ≤ V0.heap.size; omega) _) (by show _ ≤ V0.heap.size; omega) _) (by show _ ≤ V0.heap.size; omega) _) (by show _ ≤ V0.heap.size; omega) _)) ?_
      clear hK K x0 x1 x2 x3 fx0 fx1 fx2 fx3
      obtain ⟨W3, hW3⟩ : ∃ W3, W3 = ((((V2.setCell ⟨V0.heap.size, 0, none⟩ (.int .i64 0)).setCell ⟨V0.heap.size, 1, none⟩ (.int .i64 0)).setCell ⟨V0.heap.size, 2, none⟩ (.slice p1 0 f1)).setCell ⟨V0.heap.size, 3, none⟩ (.slice p2 0 f2)) := ⟨_, rfl⟩
      have Zp3 := hid (show W3.heap[V0.heap.size]? = some (.cells #[.int .i64 0, .int .i64 0, .slice p1 0 f1, .slice p2 0 f2] 33 (0, 0)) by rw [hW3]; exact (set_block (set_block (set_block (set_block Zp.out 0 _) 1 _) 2 _) 3 _))
      have Zs3 := hid (show W3.heap[V0.heap.size + 1]? = some (.cells #[.int .i64 0, .int .i64 0, .slice none 0 0] 36 (0, 0)) by rw [hW3]; exact (set_other (set_other (set_other (set_other Zs.out (by omega) _ _) (by omega) _ _) (by omega) _ _) (by omega) _ _))
      have B3 := hid (show Below w.heap.size w W3 by rw [hW3]; exact (Below.setCell (p := ⟨V0.heap.size, 3, none⟩) (Below.setCell (p := ⟨V0.heap.size, 2, none⟩) (Below.setCell (p := ⟨V0.heap.size, 1, none⟩) (Below.setCell (p := ⟨V0.heap.size, 0, none⟩) B2.out (by show _ ≤ V0.heap.size; omega) _) (by show _ ≤ V0.heap.size; omega) _) (by show _ ≤ V0.heap.size; omega) _) (by show _ ≤ V0.heap.size; omega) _))
      rw [← hW3]
      clear hW3 Zp Zs B2
      have x0 := box_cell Zs3.out 0 (v := .int .i64 0) rfl
      have x1 := box_cell Zs3.out 1 (v := .int .i64 0) rfl
      have x2 := box_cell Zs3.out 2 (v := .slice none 0 0) rfl
      have fx0 := box_frozen Zs3.out 0
      have fx1 := box_frozen Zs3.out 1
      have fx2 := box_frozen Zs3.out 2
      refine pln_last rfl (by omega) (fun K hK => ?_)
      go_simp
      refine hK _ _ ?_
      clear hK K x0 x1 x2 fx0 fx1 fx2
      obtain ⟨W4, hW4⟩ : ∃ W4, W4 = (((W3.setCell ⟨V0.heap.size + 1, 0, none⟩ (.int .i64 0)).setCell ⟨V0.heap.size + 1, 1, none⟩ (.int .i64 Z)).setCell ⟨V0.heap.size + 1, 2, none⟩ (.slice p3 n3 f3)) := ⟨_, rfl⟩
      have Zp4 := hid (show W4.heap[V0.heap.size]? = some (.cells #[.int .i64 0, .int .i64 0, .slice p1 0 f1, .slice p2 0 f2] 33 (0, 0)) by rw [hW4]; exact (set_other (set_other (set_other Zp3.out (by omega) _ _) (by omega) _ _) (by omega) _ _))
      have Zs4 := hid (show W4.heap[V0.heap.size + 1]? = some (.cells #[.int .i64 0, .int .i64 Z, .slice p3 n3 f3] 36 (0, 0)) by rw [hW4]; exact (set_block (set_block (set_block Zs3.out 0 _) 1 _) 2 _))
      have B4 := hid (show Below w.heap.size w W4 by rw [hW4]; exact (Below.setCell (p := ⟨V0.heap.size + 1, 2, none⟩) (Below.setCell (p := ⟨V0.heap.size + 1, 1, none⟩) (Below.setCell (p := ⟨V0.heap.size + 1, 0, none⟩) B3.out (by show _ ≤ V0.heap.size + 1; omega) _) (by show _ ≤ V0.heap.size + 1; omega) _) (by show _ ≤ V0.heap.size + 1; omega) _))
      rw [← hW4]
      clear hW4 Zp3 Zs3 B3
      refine pln_done ?_
      have x0 := box_cell Zp4.out 0 (v := .int .i64 0) rfl
      have x1 := box_cell Zp4.out 1 (v := .int .i64 0) rfl
      have x2 := box_cell Zp4.out 2 (v := .slice p1 0 f1) rfl
      have x3 := box_cell Zp4.out 3 (v := .slice p2 0 f2) rfl
      have t0 := box_cell Zs4.out 0 (v := .int .i64 0) rfl
      have t1 := box_cell Zs4.out 1 (v := .int .i64 Z) rfl
      have t2 := box_cell Zs4.out 2 (v := .slice p3 n3 f3) rfl
      go_wp2_with fail
      go_ret
      exact ⟨rfl, B4.out⟩
    · refine pln_step rfl (by omega) (fun K hK => ?_)
      go_simp
      refine hK _ _ (class_of (u_cat hbq (u_b1 _ _))) ?_
      clear hK K
      refine pln_step rfl (by omega) (fun K hK => ?_)
      go_simp
      refine hK _ _ (class_of (u_cat hbq (u_b2 _ _ _))) ?_
      clear hK K
      obtain ⟨V2, hV2⟩ : ∃ V2, V2 = (V0.alloc (.cells #[.int .i64 0, .int .i64 0, .slice none 0 0] 36)).alloc (.cells #[.int .i64 0, .int .i64 0, .slice none 0 0, .slice none 0 0] 33) := ⟨_, rfl⟩
      have B2 := hid (show Below w.heap.size w V2 by rw [hV2]; exact u_cat (u_cat B0.out hbq) (u_b2 _ _ _))
      have C2 := hid (show Below W0.heap.size W0 V2 by rw [hV2]; exact u_cat hbq (u_b2 _ _ _))
      have Zs := hid (show V2.heap[V0.heap.size]? = some (.cells #[.int .i64 0, .int .i64 0, .slice none 0 0] 36 (0, 0)) by rw [hV2]; exact kept (laid _ _ _) (u_b1 _ _))
      have Zp := hid (show V2.heap[V0.heap.size + 1]? = some (.cells #[.int .i64 0, .int .i64 0, .slice none 0 0, .slice none 0 0] 33 (0, 0)) by rw [hV2]; exact u_laid _ _ _ (by simp))
      rw [← hV2]
      clear hV2
      have x0 := box_cell Zp.out 0 (v := .int .i64 0) rfl
      have x1 := box_cell Zp.out 1 (v := .int .i64 0) rfl
      have x2 := box_cell Zp.out 2 (v := .slice none 0 0) rfl
      have x3 := box_cell Zp.out 3 (v := .slice none 0 0) rfl
      have fx0 := box_frozen Zp.out 0
      have fx1 := box_frozen Zp.out 1
      have fx2 := box_frozen Zp.out 2
      have fx3 := box_frozen Zp.out 3
      refine pln_step rfl (by omega) (fun K hK => ?_)
      go_simp
      refine hK _ _ (class_of (Below.setCell (p := ⟨V0.heap.size + 1, 3, none⟩) (Below.setCell (p := ⟨V0.heap.size + 1, 2, none⟩) (Below.setCell (p := ⟨V0.heap.size + 1, 1, none⟩) (Below.setCell (p := ⟨V0.heap.size + 1, 0, none⟩) C2.out (by show _ ≤ V0.heap.size + 1; omega) _) (by show _ ≤ V0.heap.size + 1; omega) _) (by show _ ≤ V0.heap.size + 1; omega) _) (by show _ ≤ V0.heap.size + 1; omega) _)) ?_
      clear hK K x0 x1 x2 x3 fx0 fx1 fx2 fx3
      obtain ⟨W3, hW3⟩ : ∃ W3, W3 = ((((V2.setCell ⟨V0.heap.size + 1, 0, none⟩ (.int .i64 0)).setCell ⟨V0.heap.size + 1, 1, none⟩ (.int .i64 0)).setCell ⟨V0.heap.size + 1, 2, none⟩ (.slice p1 0 f1)).setCell ⟨V0.heap.size + 1, 3, none⟩ (.slice p2 0 f2)) := ⟨_, rfl⟩
      have Zp3 := hid (show W3.heap[V0.heap.size + 1]? = some (.cells #[.int .i64 0, .int .i64 0, .slice p1 0 f1, .slice p2 0 f2] 33 (0, 0)) by rw [hW3]; exact (set_block (set_block (set_block (set_block Zp.out 0 _) 1 _) 2 _) 3 _))
      have Zs3 := hid (show W3.heap[V0.heap.size]? = some (.cells #[.int .i64 0, .int .i64 0, .slice none 0 0] 36 (0, 0)) by rw [hW3]; exact (set_other (set_other (set_other (set_other Zs.out (by omega) _ _) (by omega) _ _) (by omega) _ _) (by omega) _ _))
      have B3 := hid (show Below w.heap.size w W3 by rw [hW3]; exact (Below.setCell (p := ⟨V0.heap.size + 1, 3, none⟩) (Below.setCell (p := ⟨V0.heap.size + 1, 2, none⟩) (Below.setCell (p := ⟨V0.heap.size + 1, 1, none⟩) (Below.setCell (p := ⟨V0.heap.size + 1, 0, none⟩) B2.out (by show _ ≤ V0.heap.size + 1; omega) _) (by show _ ≤ V0.heap.size + 1; omega) _) (by show _ ≤ V0.heap.size + 1; omega) _) (by show _ ≤ V0.heap.size + 1; omega) _))
      rw [← hW3]
      clear hW3 Zp Zs B2
      have x0 := box_cell Zs3.out 0 (v := .int .i64 0) rfl
      have x1 := box_cell Zs3.out 1 (v := .int .i64 0) rfl
      have x2 := box_cell Zs3.out 2 (v := .slice none 0 0) rfl
      have fx0 := box_frozen Zs3.out 0
      have fx1 := box_frozen Zs3.out 1
      have fx2 := box_frozen Zs3.out 2
      refine pln_last rfl (by omega) (fun K hK => ?_)
      go_simp
      refine hK _ _ ?_
      clear hK K x0 x1 x2 fx0 fx1 fx2
      obtain ⟨W4, hW4⟩ : ∃ W4, W4 = (((W3.setCell ⟨V0.heap.size, 0, none⟩ (.int .i64 0)).setCell ⟨V0.heap.size, 1, none⟩ (.int .i64 Z)).setCell ⟨V0.heap.size, 2, none⟩ (.slice p3 n3 f3)) := ⟨_, rfl⟩
      have Zp4 := hid (show W4.heap[V0.heap.size + 1]? = some (.cells #[.int .i64 0, .int .i64 0, .slice p1 0 f1, .slice p2 0 f2] 33 (0, 0)) by rw [hW4]; exact (set_other (set_other (set_other Zp3.out (by omega) _ _) (by omega) _ _) (by omega) _ _))
      have Zs4 := hid (show W4.heap[V0.heap.size]? = some (.cells #[.int .i64 0, .int .i64 Z, .slice p3 n3 f3] 36 (0, 0)) by rw [hW4]; exact (set_block (set_block (set_block Zs3.out 0 _) 1 _) 2 _))
      have B4 := hid (show Below w.heap.size w W4 by rw [hW4]; exact (Below.setCell (p := ⟨V0.heap.size, 2, none⟩) (Below.setCell (p := ⟨V0.heap.size, 1, none⟩) (Below.setCell (p := ⟨V0.heap.size, 0, none⟩) B3.out (by show _ ≤ V0.heap.size; omega) _) (by show _ ≤ V0.heap.size; omega) _) (by show _ ≤ V0.heap.size; omega) _))
      rw [← hW4]
      clear hW4 Zp3 Zs3 B3
      refine pln_done ?_
      have x0 := box_cell Zp4.out 0 (v := .int .i64 0) rfl
      have x1 := box_cell Zp4.out 1 (v := .int .i64 0) rfl
      have x2 := box_cell Zp4.out 2 (v := .slice p1 0 f1) rfl
      have x3 := box_cell Zp4.out 3 (v := .slice p2 0 f2) rfl
      have t0 := box_cell Zs4.out 0 (v := .int .i64 0) rfl
      have t1 := box_cell Zs4.out 1 (v := .int .i64 Z) rfl
      have t2 := box_cell Zs4.out 2 (v := .slice p3 n3 f3) rfl
      go_wp2_with fail
      go_ret
      exact ⟨rfl, B4.out⟩
  subst hZ
  by_cases hn3 : n3 = 0
  case neg =>
    rw [decide_eq_false (show ¬ nonP 0 0 0 0 0 0 n3 from fun h => hn3 (by unfold nonP at h; omega))]
    have bn3 : (((n3 : Nat) : Int) == 0) = false := beq_eq_false_iff_ne.2 (by omega)
    obtain ⟨W0, hW0⟩ : ∃ W0, W0 = w.alloc (.cells #[.int .i64 0, .int .i64 0, .slice p1 0 f1, .slice p2 0 f2, .int .i64 0, .int .i64 0, .slice p3 n3 f3] 38) := ⟨_, rfl⟩
    have X0 : W0.heap[w.heap.size]? = some (.cells #[.int .i64 0, .int .i64 0, .slice p1 0 f1, .slice p2 0 f2, .int .i64 0, .int .i64 0, .slice p3 n3 f3] 38 (0, 0)) := by rw [hW0]; exact laid _ _ _
    have B0 := hid (show Below w.heap.size w W0 by rw [hW0]; exact u_b1 _ _)
    have hz0 : W0.heap.size = w.heap.size + 1 := by rw [hW0]; simp
    have y0 := cell_regrown (box_cell X0 0 (v := .int .i64 0) rfl)
    have y1 := cell_regrown (box_cell X0 1 (v := .int .i64 0) rfl)
    have y2 := cell_regrown (box_cell X0 2 (v := .slice p1 0 f1) rfl)
    have y3 := cell_regrown (box_cell X0 3 (v := .slice p2 0 f2) rfl)
    have y4 := cell_regrown (box_cell X0 4 (v := .int .i64 0) rfl)
    have y5 := cell_regrown (box_cell X0 5 (v := .int .i64 0) rfl)
    have y6 := cell_regrown (box_cell X0 6 (v := .slice p3 n3 f3) rfl)
    clear X0
    go_enter Tryz.func75, Tryz.ntmps75
    repeat ((fail_if_success (with_reducible show Code.wp _ (Code.region 1 _ _) _ _ _)); (first | go_values | go_skip | go_guarded | go_step | go_upon | go_back | go_simp))
    rw [← hW0]
    clear hW0
    refine wp_plan 7 (.pull [(0, 4)] (.fork 4 (.step 5 (.step 6 (.step 7 .done))) 5 (.step 4 (.step 6 (.step 7 .done))))) (by kernel_rfl) (by kernel_rfl) ?_
    intro V0 hw0
    have hbq := of_class hw0
    have hz1 := hbq.size
    refine pln_pull ?_
    simp only [cutOut, List.take_succ_cons, List.take_zero, List.drop_zero, List.append_nil]
    repeat (first | go_big_quiet_step (fail) | quiet_step (fail))
    try refine wpQuiet_nil ?_
    clear y0 y1 y2 y3 y4 y5 y6
    refine pln_fork ?_ ?_
    · refine pln_step rfl (by omega) (fun K hK => ?_)
      go_simp
      refine hK _ _ (class_of (u_cat hbq (u_b1 _ _))) ?_
      clear hK K
      refine pln_step rfl (by omega) (fun K hK => ?_)
      go_simp
      refine hK _ _ (class_of (u_cat hbq (u_b2 _ _ _))) ?_
      clear hK K
      obtain ⟨V2, hV2⟩ : ∃ V2, V2 = (V0.alloc (.cells #[.int .i64 0, .int .i64 0, .slice none 0 0, .slice none 0 0] 33)).alloc (.cells #[.int .i64 0, .int .i64 0, .slice none 0 0] 36) := ⟨_, rfl⟩
      have B2 := hid (show Below w.heap.size w V2 by rw [hV2]; exact u_cat (u_cat B0.out hbq) (u_b2 _ _ _))
      have C2 := hid (show Below W0.heap.size W0 V2 by rw [hV2]; exact u_cat hbq (u_b2 _ _ _))
      have Zp := hid (show V2.heap[V0.heap.size]? = some (.cells #[.int .i64 0, .int .i64 0, .slice none 0 0, .slice none 0 0] 33 (0, 0)) by rw [hV2]; exact kept (laid _ _ _) (u_b1 _ _))
      have Zs := hid (show V2.heap[V0.heap.size + 1]? = some (.cells #[.int .i64 0, .int .i64 0, .slice none 0 0] 36 (0, 0)) by rw [hV2]; exact u_laid _ _ _ (by simp))
      rw [← hV2]
      clear hV2
      have x0 := box_cell Zp.out 0 (v := .int .i64 0) rfl
      have x1 := box_cell Zp.out 1 (v := .int .i64 0) rfl
      have x2 := box_cell Zp.out 2 (v := .slice none 0 0) rfl
      have x3 := box_cell Zp.out 3 (v := .slice none 0 0) rfl
      have fx0 := box_frozen Zp.out 0
      have fx1 := box_frozen Zp.out 1
      have fx2 := box_frozen Zp.out 2
      have fx3 := box_frozen Zp.out 3
      refine pln_step rfl (by omega) (fun K hK => ?_)
      go_simp
      refine hK _ _ (class_of (Below.setCell (p := ⟨V0.heap.size, 3, none⟩) (Below.setCell (p := ⟨V0.heap.size, 2, none⟩) (Below.setCell (p := ⟨V0.heap.size, 1, none⟩) (Below.setCell (p := ⟨V0.heap.size, 0, none⟩) C2.out (by show _ ≤ V0.heap.size; omega) _) (by show _ ≤ V0.heap.size; omega) _) (by show _ ≤ V0.heap.size; omega) _) (by show _ ≤ V0.heap.size; omega) _)) ?_
      clear hK K x0 x1 x2 x3 fx0 fx1 fx2 fx3
      obtain ⟨W3, hW3⟩ : ∃ W3, W3 = ((((V2.setCell ⟨V0.heap.size, 0, none⟩ (.int .i64 0)).setCell ⟨V0.heap.size, 1, none⟩ (.int .i64 0)).setCell ⟨V0.heap.size, 2, none⟩ (.slice p1 0 f1)).setCell ⟨V0.heap.size, 3, none⟩ (.slice p2 0 f2)) := ⟨_, rfl⟩
      have Zp3 := hid (show W3.heap[V0.heap.size]? = some (.cells #[.int .i64 0, .int .i64 0, .slice p1 0 f1, .slice p2 0 f2] 33 (0, 0)) by rw [hW3]; exact (set_block (set_block (set_block (set_block Zp.out 0 _) 1 _) 2 _) 3 _))
      have Zs3 := hid (show W3.heap[V0.heap.size + 1]? = some (.cells #[.int .i64 0, .int .i64 0, .slice none 0 0] 36 (0, 0)) by rw [hW3]; exact (set_other (set_other (set_other (set_other Zs.out (by omega) _ _) (by omega) _ _) (by omega) _ _) (by omega) _ _))
      have B3 := hid (show Below w.heap.size w W3 by rw [hW3]; exact (Below.setCell (p := ⟨V0.heap.size, 3, none⟩) (Below.setCell (p := ⟨V0.heap.size, 2, none⟩) (Below.setCell (p := ⟨V0.heap.size, 1, none⟩) (Below.setCell (p := ⟨V0.heap.size, 0, none⟩) B2.out (by show _ ≤ V0.heap.size; omega) _) (by show _ ≤ V0.heap.size; omega) _) (by show _ ≤ V0.heap.size; omega) _) (by show _ ≤ V0.heap.size; omega) _))
      rw [← hW3]
      clear hW3 Zp Zs B2
      have x0 := box_cell Zs3.out 0 (v := .int .i64 0) rfl
      have x1 := box_cell Zs3.out 1 (v := .int .i64 0) rfl
      have x2 := box_cell Zs3.out 2 (v := .slice none 0 0) rfl
      have fx0 := box_frozen Zs3.out 0
      have fx1 := box_frozen Zs3.out 1
      have fx2 := box_frozen Zs3.out 2
      refine pln_last rfl (by omega) (fun K hK => ?_)
      go_simp
      refine hK _ _ ?_
      clear hK K x0 x1 x2 fx0 fx1 fx2
      obtain ⟨W4, hW4⟩ : ∃ W4, W4 = (((W3.setCell ⟨V0.heap.size + 1, 0, none⟩ (.int .i64 0)).setCell ⟨V0.heap.size + 1, 1, none⟩ (.int .i64 0)).setCell ⟨V0.heap.size + 1, 2, none⟩ (.slice p3 n3 f3)) := ⟨_, rfl⟩
      have Zp4 := hid (show W4.heap[V0.heap.size]? = some (.cells #[.int .i64 0, .int .i64 0, .slice p1 0 f1, .slice p2 0 f2] 33 (0, 0)) by rw [hW4]; exact (set_other (set_other (set_other Zp3.out (by omega) _ _) (by omega) _ _) (by omega) _ _))
      have Zs4 := hid (show W4.heap[V0.heap.size + 1]? = some (.cells #[.int .i64 0, .int .i64 0, .slice p3 n3 f3] 36 (0, 0)) by rw [hW4]; exact (set_block (set_block (set_block Zs3.out 0 _) 1 _) 2 _))
      have B4 := hid (show Below w.heap.size w W4 by rw [hW4]; exact (Below.setCell (p := ⟨V0.heap.size + 1, 2, none⟩) (Below.setCell (p := ⟨V0.heap.size + 1, 1, none⟩) (Below.setCell (p := ⟨V0.heap.size + 1, 0, none⟩) B3.out (by show _ ≤ V0.heap.size + 1; omega) _) (by show _ ≤ V0.heap.size + 1; omega) _) (by show _ ≤ V0.heap.size + 1; omega) _))
      rw [← hW4]
      clear hW4 Zp3 Zs3 B3
      refine pln_done ?_
      have x0 := box_cell Zp4.out 0 (v := .int .i64 0) rfl
      have x1 := box_cell Zp4.out 1 (v := .int .i64 0) rfl
      have x2 := box_cell Zp4.out 2 (v := .slice p1 0 f1) rfl
      have x3 := box_cell Zp4.out 3 (v := .slice p2 0 f2) rfl
      have t0 := box_cell Zs4.out 0 (v := .int .i64 0) rfl
      have t1 := box_cell Zs4.out 1 (v := .int .i64 0) rfl
      have t2 := box_cell Zs4.out 2 (v := .slice p3 n3 f3) rfl
      go_wp2_with fail
      go_ret
      exact ⟨rfl, B4.out⟩
    · refine pln_step rfl (by omega) (fun K hK => ?_)
      go_simp
      refine hK _ _ (class_of (u_cat hbq (u_b1 _ _))) ?_
      clear hK K
      refine pln_step rfl (by omega) (fun K hK => ?_)
      go_simp
      refine hK _ _ (class_of (u_cat hbq (u_b2 _ _ _))) ?_
      clear hK K
      obtain ⟨V2, hV2⟩ : ∃ V2, V2 = (V0.alloc (.cells #[.int .i64 0, .int .i64 0, .slice none 0 0] 36)).alloc (.cells #[.int .i64 0, .int .i64 0, .slice none 0 0, .slice none 0 0] 33) := ⟨_, rfl⟩
      have B2 := hid (show Below w.heap.size w V2 by rw [hV2]; exact u_cat (u_cat B0.out hbq) (u_b2 _ _ _))
      have C2 := hid (show Below W0.heap.size W0 V2 by rw [hV2]; exact u_cat hbq (u_b2 _ _ _))
      have Zs := hid (show V2.heap[V0.heap.size]? = some (.cells #[.int .i64 0, .int .i64 0, .slice none 0 0] 36 (0, 0)) by rw [hV2]; exact kept (laid _ _ _) (u_b1 _ _))
      have Zp := hid (show V2.heap[V0.heap.size + 1]? = some (.cells #[.int .i64 0, .int .i64 0, .slice none 0 0, .slice none 0 0] 33 (0, 0)) by rw [hV2]; exact u_laid _ _ _ (by simp))
      rw [← hV2]
      clear hV2
      have x0 := box_cell Zp.out 0 (v := .int .i64 0) rfl
      have x1 := box_cell Zp.out 1 (v := .int .i64 0) rfl
      have x2 := box_cell Zp.out 2 (v := .slice none 0 0) rfl
      have x3 := box_cell Zp.out 3 (v := .slice none 0 0) rfl
      have fx0 := box_frozen Zp.out 0
      have fx1 := box_frozen Zp.out 1
      have fx2 := box_frozen Zp.out 2
      have fx3 := box_frozen Zp.out 3
      refine pln_step rfl (by omega) (fun K hK => ?_)
      go_simp
      refine hK _ _ (class_of (Below.setCell (p := ⟨V0.heap.size + 1, 3, none⟩) (Below.setCell (p := ⟨V0.heap.size + 1, 2, none⟩) (Below.setCell (p := ⟨V0.heap.size + 1, 1, none⟩) (Below.setCell (p := ⟨V0.heap.size + 1, 0, none⟩) C2.out (by show _ ≤ V0.heap.size + 1; omega) _) (by show _ ≤ V0.heap.size + 1; omega) _) (by show _ ≤ V0.heap.size + 1; omega) _) (by show _ ≤ V0.heap.size + 1; omega) _)) ?_
      clear hK K x0 x1 x2 x3 fx0 fx1 fx2 fx3
      obtain ⟨W3, hW3⟩ : ∃ W3, W3 = ((((V2.setCell ⟨V0.heap.size + 1, 0, none⟩ (.int .i64 0)).setCell ⟨V0.heap.size + 1, 1, none⟩ (.int .i64 0)).setCell ⟨V0.heap.size + 1, 2, none⟩ (.slice p1 0 f1)).setCell ⟨V0.heap.size + 1, 3, none⟩ (.slice p2 0 f2)) := ⟨_, rfl⟩
      have Zp3 := hid (show W3.heap[V0.heap.size + 1]? = some (.cells #[.int .i64 0, .int .i64 0, .slice p1 0 f1, .slice p2 0 f2] 33 (0, 0)) by rw [hW3]; exact (set_block (set_block (set_block (set_block Zp.out 0 _) 1 _) 2 _) 3 _))
      have Zs3 := hid (show W3.heap[V0.heap.size]? = some (.cells #[.int .i64 0, .int .i64 0, .slice none 0 0] 36 (0, 0)) by rw [hW3]; exact (set_other (set_other (set_other (set_other Zs.out (by omega) _ _) (by omega) _ _) (by omega) _ _) (by omega) _ _))
      have B3 := hid (show Below w.heap.size w W3 by rw [hW3]; exact (Below.setCell (p := ⟨V0.heap.size + 1, 3, none⟩) (Below.setCell (p := ⟨V0.heap.size + 1, 2, none⟩) (Below.setCell (p := ⟨V0.heap.size + 1, 1, none⟩) (Below.setCell (p := ⟨V0.heap.size + 1, 0, none⟩) B2.out (by show _ ≤ V0.heap.size + 1; omega) _) (by show _ ≤ V0.heap.size + 1; omega) _) (by show _ ≤ V0.heap.size + 1; omega) _) (by show _ ≤ V0.heap.size + 1; omega) _))
      rw [← hW3]
      clear hW3 Zp Zs B2
      have x0 := box_cell Zs3.out 0 (v := .int .i64 0) rfl
      have x1 := box_cell Zs3.out 1 (v := .int .i64 0) rfl
      have x2 := box_cell Zs3.out 2 (v := .slice none 0 0) rfl
      have fx0 := box_frozen Zs3.out 0
      have fx1 := box_frozen Zs3.out 1
      have fx2 := box_frozen Zs3.out 2
      refine pln_last rfl (by omega) (fun K hK => ?_)
      go_simp
      refine hK _ _ ?_
      clear hK K x0 x1 x2 fx0 fx1 fx2
      obtain ⟨W4, hW4⟩ : ∃ W4, W4 = (((W3.setCell ⟨V0.heap.size, 0, none⟩ (.int .i64 0)).setCell ⟨V0.heap.size, 1, none⟩ (.int .i64 0)).setCell ⟨V0.heap.size, 2, none⟩ (.slice p3 n3 f3)) := ⟨_, rfl⟩
      have Zp4 := hid (show W4.heap[V0.heap.size + 1]? = some (.cells #[.int .i64 0, .int .i64 0, .slice p1 0 f1, .slice p2 0 f2] 33 (0, 0)) by rw [hW4]; exact (set_other (set_other (set_other Zp3.out (by omega) _ _) (by omega) _ _) (by omega) _ _))
      have Zs4 := hid (show W4.heap[V0.heap.size]? = some (.cells #[.int .i64 0, .int .i64 0, .slice p3 n3 f3] 36 (0, 0)) by rw [hW4]; exact (set_block (set_block (set_block Zs3.out 0 _) 1 _) 2 _))
      have B4 := hid (show Below w.heap.size w W4 by rw [hW4]; exact (Below.setCell (p := ⟨V0.heap.size, 2, none⟩) (Below.setCell (p := ⟨V0.heap.size, 1, none⟩) (Below.setCell (p := ⟨V0.heap.size, 0, none⟩) B3.out (by show _ ≤ V0.heap.size; omega) _) (by show _ ≤ V0.heap.size; omega) _) (by show _ ≤ V0.heap.size; omega) _))
      rw [← hW4]
      clear hW4 Zp3 Zs3 B3
      refine pln_done ?_
      have x0 := box_cell Zp4.out 0 (v := .int .i64 0) rfl
      have x1 := box_cell Zp4.out 1 (v := .int .i64 0) rfl
      have x2 := box_cell Zp4.out 2 (v := .slice p1 0 f1) rfl
      have x3 := box_cell Zp4.out 3 (v := .slice p2 0 f2) rfl
      have t0 := box_cell Zs4.out 0 (v := .int .i64 0) rfl
      have t1 := box_cell Zs4.out 1 (v := .int .i64 0) rfl
      have t2 := box_cell Zs4.out 2 (v := .slice p3 n3 f3) rfl
      go_wp2_with fail
      go_ret
      exact ⟨rfl, B4.out⟩
  subst hn3
  rw [decide_eq_true (show nonP 0 0 0 0 0 0 0 from ⟨rfl, rfl, rfl, rfl, rfl, rfl, rfl⟩)]
  obtain ⟨W0, hW0⟩ : ∃ W0, W0 = w.alloc (.cells #[.int .i64 0, .int .i64 0, .slice p1 0 f1, .slice p2 0 f2, .int .i64 0, .int .i64 0, .slice p3 0 f3] 38) := ⟨_, rfl⟩
  have X0 : W0.heap[w.heap.size]? = some (.cells #[.int .i64 0, .int .i64 0, .slice p1 0 f1, .slice p2 0 f2, .int .i64 0, .int .i64 0, .slice p3 0 f3] 38 (0, 0)) := by rw [hW0]; exact laid _ _ _
  have B0 := hid (show Below w.heap.size w W0 by rw [hW0]; exact u_b1 _ _)
  have hz0 : W0.heap.size = w.heap.size + 1 := by rw [hW0]; simp
  have y0 := cell_regrown (box_cell X0 0 (v := .int .i64 0) rfl)
  have y1 := cell_regrown (box_cell X0 1 (v := .int .i64 0) rfl)
  have y2 := cell_regrown (box_cell X0 2 (v := .slice p1 0 f1) rfl)
  have y3 := cell_regrown (box_cell X0 3 (v := .slice p2 0 f2) rfl)
  have y4 := cell_regrown (box_cell X0 4 (v := .int .i64 0) rfl)
  have y5 := cell_regrown (box_cell X0 5 (v := .int .i64 0) rfl)
  have y6 := cell_regrown (box_cell X0 6 (v := .slice p3 0 f3) rfl)
  clear X0
  go_enter Tryz.func75, Tryz.ntmps75
  repeat ((fail_if_success (with_reducible show Code.wp _ (Code.region 1 _ _) _ _ _)); (first | go_values | go_skip | go_guarded | go_step | go_upon | go_back | go_simp))
  rw [← hW0]
  clear hW0
  refine wp_plan 7 (.pull [(0, 4)] (.fork 4 (.step 5 (.step 6 (.step 7 .done))) 5 (.step 4 (.step 6 (.step 7 .done))))) (by kernel_rfl) (by kernel_rfl) ?_
  intro V0 hw0
  have hbq := of_class hw0
  have hz1 := hbq.size
  refine pln_pull ?_
  simp only [cutOut, List.take_succ_cons, List.take_zero, List.drop_zero, List.append_nil]
  repeat (first | go_big_quiet_step (fail) | quiet_step (fail))
  try refine wpQuiet_nil ?_
  clear y0 y1 y2 y3 y4 y5 y6
  refine pln_fork ?_ ?_
  · refine pln_step rfl (by omega) (fun K hK => ?_)
    go_simp
    refine hK _ _ (class_of (u_cat hbq (u_b1 _ _))) ?_
    clear hK K
    refine pln_step rfl (by omega) (fun K hK => ?_)
    go_simp
    refine hK _ _ (class_of (u_cat hbq (u_b2 _ _ _))) ?_
    clear hK K
    obtain ⟨V2, hV2⟩ : ∃ V2, V2 = (V0.alloc (.cells #[.int .i64 0, .int .i64 0, .slice none 0 0, .slice none 0 0] 33)).alloc (.cells #[.int .i64 0, .int .i64 0, .slice none 0 0] 36) := ⟨_, rfl⟩
    have B2 := hid (show Below w.heap.size w V2 by rw [hV2]; exact u_cat (u_cat B0.out hbq) (u_b2 _ _ _))
    have C2 := hid (show Below W0.heap.size W0 V2 by rw [hV2]; exact u_cat hbq (u_b2 _ _ _))
    have Zp := hid (show V2.heap[V0.heap.size]? = some (.cells #[.int .i64 0, .int .i64 0, .slice none 0 0, .slice none 0 0] 33 (0, 0)) by rw [hV2]; exact kept (laid _ _ _) (u_b1 _ _))
    have Zs := hid (show V2.heap[V0.heap.size + 1]? = some (.cells #[.int .i64 0, .int .i64 0, .slice none 0 0] 36 (0, 0)) by rw [hV2]; exact u_laid _ _ _ (by simp))
    rw [← hV2]
    clear hV2
    have x0 := box_cell Zp.out 0 (v := .int .i64 0) rfl
    have x1 := box_cell Zp.out 1 (v := .int .i64 0) rfl
    have x2 := box_cell Zp.out 2 (v := .slice none 0 0) rfl
    have x3 := box_cell Zp.out 3 (v := .slice none 0 0) rfl
    have fx0 := box_frozen Zp.out 0
    have fx1 := box_frozen Zp.out 1
    have fx2 := box_frozen Zp.out 2
    have fx3 := box_frozen Zp.out 3
    refine pln_step rfl (by omega) (fun K hK => ?_)
    go_simp
    refine hK _ _ (class_of (Below.setCell (p := ⟨V0.heap.size, 3, none⟩) (Below.setCell (p := ⟨V0.heap.size, 2, none⟩) (Below.setCell (p := ⟨V0.heap.size, 1, none⟩) (Below.setCell (p := ⟨V0.heap.size, 0, none⟩) C2.out (by show _ ≤ V0.heap.size; omega) _) (by show _ ≤ V0.heap.size; omega) _) (by show _ ≤ V0.heap.size; omega) _) (by show _ ≤ V0.heap.size; omega) _)) ?_
    clear hK K x0 x1 x2 x3 fx0 fx1 fx2 fx3
    obtain ⟨W3, hW3⟩ : ∃ W3, W3 = ((((V2.setCell ⟨V0.heap.size, 0, none⟩ (.int .i64 0)).setCell ⟨V0.heap.size, 1, none⟩ (.int .i64 0)).setCell ⟨V0.heap.size, 2, none⟩ (.slice p1 0 f1)).setCell ⟨V0.heap.size, 3, none⟩ (.slice p2 0 f2)) := ⟨_, rfl⟩
    have Zp3 := hid (show W3.heap[V0.heap.size]? = some (.cells #[.int .i64 0, .int .i64 0, .slice p1 0 f1, .slice p2 0 f2] 33 (0, 0)) by rw [hW3]; exact (set_block (set_block (set_block (set_block Zp.out 0 _) 1 _) 2 _) 3 _))
    have Zs3 := hid (show W3.heap[V0.heap.size + 1]? = some (.cells #[.int .i64 0, .int .i64 0, .slice none 0 0] 36 (0, 0)) by rw [hW3]; exact (set_other (set_other (set_other (set_other Zs.out (by omega) _ _) (by omega) _ _) (by omega) _ _) (by omega) _ _))
    have B3 := hid (show Below w.heap.size w W3 by rw [hW3]; exact (Below.setCell (p := ⟨V0.heap.size, 3, none⟩) (Below.setCell (p := ⟨V0.heap.size, 2, none⟩) (Below.setCell (p := ⟨V0.heap.size, 1, none⟩) (Below.setCell (p := ⟨V0.heap.size, 0, none⟩) B2.out (by show _ ≤ V0.heap.size; omega) _) (by show _ ≤ V0.heap.size; omega) _) (by show _ ≤ V0.heap.size; omega) _) (by show _ ≤ V0.heap.size; omega) _))
    rw [← hW3]
    clear hW3 Zp Zs B2
    have x0 := box_cell Zs3.out 0 (v := .int .i64 0) rfl
    have x1 := box_cell Zs3.out 1 (v := .int .i64 0) rfl
    have x2 := box_cell Zs3.out 2 (v := .slice none 0 0) rfl
    have fx0 := box_frozen Zs3.out 0
    have fx1 := box_frozen Zs3.out 1
    have fx2 := box_frozen Zs3.out 2
    refine pln_last rfl (by omega) (fun K hK => ?_)
    go_simp
    refine hK _ _ ?_
    clear hK K x0 x1 x2 fx0 fx1 fx2
    obtain ⟨W4, hW4⟩ : ∃ W4, W4 = (((W3.setCell ⟨V0.heap.size + 1, 0, none⟩ (.int .i64 0)).setCell ⟨V0.heap.size + 1, 1, none⟩ (.int .i64 0)).setCell ⟨V0.heap.size + 1, 2, none⟩ (.slice p3 0 f3)) := ⟨_, rfl⟩
    have Zp4 := hid (show W4.heap[V0.heap.size]? = some (.cells #[.int .i64 0, .int .i64 0, .slice p1 0 f1, .slice p2 0 f2] 33 (0, 0)) by rw [hW4]; exact (set_other (set_other (set_other Zp3.out (by omega) _ _) (by omega) _ _) (by omega) _ _))
    have Zs4 := hid (show W4.heap[V0.heap.size + 1]? = some (.cells #[.int .i64 0, .int .i64 0, .slice p3 0 f3] 36 (0, 0)) by rw [hW4]; exact (set_block (set_block (set_block Zs3.out 0 _) 1 _) 2 _))
    have B4 := hid (show Below w.heap.size w W4 by rw [hW4]; exact (Below.setCell (p := ⟨V0.heap.size + 1, 2, none⟩) (Below.setCell (p := ⟨V0.heap.size + 1, 1, none⟩) (Below.setCell (p := ⟨V0.heap.size + 1, 0, none⟩) B3.out (by show _ ≤ V0.heap.size + 1; omega) _) (by show _ ≤ V0.heap.size + 1; omega) _) (by show _ ≤ V0.heap.size + 1; omega) _))
    rw [← hW4]
    clear hW4 Zp3 Zs3 B3
    refine pln_done ?_
    have x0 := box_cell Zp4.out 0 (v := .int .i64 0) rfl
    have x1 := box_cell Zp4.out 1 (v := .int .i64 0) rfl
    have x2 := box_cell Zp4.out 2 (v := .slice p1 0 f1) rfl
    have x3 := box_cell Zp4.out 3 (v := .slice p2 0 f2) rfl
    have t0 := box_cell Zs4.out 0 (v := .int .i64 0) rfl
    have t1 := box_cell Zs4.out 1 (v := .int .i64 0) rfl
    have t2 := box_cell Zs4.out 2 (v := .slice p3 0 f3) rfl
    go_wp2_with fail
    go_ret
    exact ⟨rfl, B4.out⟩
  · refine pln_step rfl (by omega) (fun K hK => ?_)
    go_simp
    refine hK _ _ (class_of (u_cat hbq (u_b1 _ _))) ?_
    clear hK K
    refine pln_step rfl (by omega) (fun K hK => ?_)
    go_simp
    refine hK _ _ (class_of (u_cat hbq (u_b2 _ _ _))) ?_
    clear hK K
    obtain ⟨V2, hV2⟩ : ∃ V2, V2 = (V0.alloc (.cells #[.int .i64 0, .int .i64 0, .slice none 0 0] 36)).alloc (.cells #[.int .i64 0, .int .i64 0, .slice none 0 0, .slice none 0 0] 33) := ⟨_, rfl⟩
    have B2 := hid (show Below w.heap.size w V2 by rw [hV2]; exact u_cat (u_cat B0.out hbq) (u_b2 _ _ _))
    have C2 := hid (show Below W0.heap.size W0 V2 by rw [hV2]; exact u_cat hbq (u_b2 _ _ _))
    have Zs := hid (show V2.heap[V0.heap.size]? = some (.cells #[.int .i64 0, .int .i64 0, .slice none 0 0] 36 (0, 0)) by rw [hV2]; exact kept (laid _ _ _) (u_b1 _ _))
    have Zp := hid (show V2.heap[V0.heap.size + 1]? = some (.cells #[.int .i64 0, .int .i64 0, .slice none 0 0, .slice none 0 0] 33 (0, 0)) by rw [hV2]; exact u_laid _ _ _ (by simp))
    rw [← hV2]
    clear hV2
    have x0 := box_cell Zp.out 0 (v := .int .i64 0) rfl
    have x1 := box_cell Zp.out 1 (v := .int .i64 0) rfl
    have x2 := box_cell Zp.out 2 (v := .slice none 0 0) rfl
    have x3 := box_cell Zp.out 3 (v := .slice none 0 0) rfl
    have fx0 := box_frozen Zp.out 0
    have fx1 := box_frozen Zp.out 1
    have fx2 := box_frozen Zp.out 2
    have fx3 := box_frozen Zp.out 3
    refine pln_step rfl (by omega) (fun K hK => ?_)
    go_simp
    refine hK _ _ (class_of (Below.setCell (p := ⟨V0.heap.size + 1, 3, none⟩) (Below.setCell (p := ⟨V0.heap.size + 1, 2, none⟩) (Below.setCell (p := ⟨V0.heap.size + 1, 1, none⟩) (Below.setCell (p := ⟨V0.heap.size + 1, 0, none⟩) C2.out (by show _ ≤ V0.heap.size + 1; omega) _) (by show _ ≤ V0.heap.size + 1; omega) _) (by show _ ≤ V0.heap.size + 1; omega) _) (by show _ ≤ V0.heap.size + 1; omega) _)) ?_
    clear hK K x0 x1 x2 x3 fx0 fx1 fx2 fx3
    obtain ⟨W3, hW3⟩ : ∃ W3, W3 = ((((V2.setCell ⟨V0.heap.size + 1, 0, none⟩ (.int .i64 0)).setCell ⟨V0.heap.size + 1, 1, none⟩ (.int .i64 0)).setCell ⟨V0.heap.size + 1, 2, none⟩ (.slice p1 0 f1)).setCell ⟨V0.heap.size + 1, 3, none⟩ (.slice p2 0 f2)) := ⟨_, rfl⟩
    have Zp3 := hid (show W3.heap[V0.heap.size + 1]? = some (.cells #[.int .i64 0, .int .i64 0, .slice p1 0 f1, .slice p2 0 f2] 33 (0, 0)) by rw [hW3]; exact (set_block (set_block (set_block (set_block Zp.out 0 _) 1 _) 2 _) 3 _))
    have Zs3 := hid (show W3.heap[V0.heap.size]? = some (.cells #[.int .i64 0, .int .i64 0, .slice none 0 0] 36 (0, 0)) by rw [hW3]; exact (set_other (set_other (set_other (set_other Zs.out (by omega) _ _) (by omega) _ _) (by omega) _ _) (by omega) _ _))
    have B3 := hid (show Below w.heap.size w W3 by rw [hW3]; exact (Below.setCell (p := ⟨V0.heap.size + 1, 3, none⟩) (Below.setCell (p := ⟨V0.heap.size + 1, 2, none⟩) (Below.setCell (p := ⟨V0.heap.size + 1, 1, none⟩) (Below.setCell (p := ⟨V0.heap.size + 1, 0, none⟩) B2.out (by show _ ≤ V0.heap.size + 1; omega) _) (by show _ ≤ V0.heap.size + 1; omega) _) (by show _ ≤ V0.heap.size + 1; omega) _) (by show _ ≤ V0.heap.size + 1; omega) _))
    rw [← hW3]
    clear hW3 Zp Zs B2
    have x0 := box_cell Zs3.out 0 (v := .int .i64 0) rfl
    have x1 := box_cell Zs3.out 1 (v := .int .i64 0) rfl
    have x2 := box_cell Zs3.out 2 (v := .slice none 0 0) rfl
    have fx0 := box_frozen Zs3.out 0
    have fx1 := box_frozen Zs3.out 1
    have fx2 := box_frozen Zs3.out 2
    refine pln_last rfl (by omega) (fun K hK => ?_)
    go_simp
    refine hK _ _ ?_
    clear hK K x0 x1 x2 fx0 fx1 fx2
    obtain ⟨W4, hW4⟩ : ∃ W4, W4 = (((W3.setCell ⟨V0.heap.size, 0, none⟩ (.int .i64 0)).setCell ⟨V0.heap.size, 1, none⟩ (.int .i64 0)).setCell ⟨V0.heap.size, 2, none⟩ (.slice p3 0 f3)) := ⟨_, rfl⟩
    have Zp4 := hid (show W4.heap[V0.heap.size + 1]? = some (.cells #[.int .i64 0, .int .i64 0, .slice p1 0 f1, .slice p2 0 f2] 33 (0, 0)) by rw [hW4]; exact (set_other (set_other (set_other Zp3.out (by omega) _ _) (by omega) _ _) (by omega) _ _))
    have Zs4 := hid (show W4.heap[V0.heap.size]? = some (.cells #[.int .i64 0, .int .i64 0, .slice p3 0 f3] 36 (0, 0)) by rw [hW4]; exact (set_block (set_block (set_block Zs3.out 0 _) 1 _) 2 _))
    have B4 := hid (show Below w.heap.size w W4 by rw [hW4]; exact (Below.setCell (p := ⟨V0.heap.size, 2, none⟩) (Below.setCell (p := ⟨V0.heap.size, 1, none⟩) (Below.setCell (p := ⟨V0.heap.size, 0, none⟩) B3.out (by show _ ≤ V0.heap.size; omega) _) (by show _ ≤ V0.heap.size; omega) _) (by show _ ≤ V0.heap.size; omega) _))
    rw [← hW4]
    clear hW4 Zp3 Zs3 B3
    refine pln_done ?_
    have x0 := box_cell Zp4.out 0 (v := .int .i64 0) rfl
    have x1 := box_cell Zp4.out 1 (v := .int .i64 0) rfl
    have x2 := box_cell Zp4.out 2 (v := .slice p1 0 f1) rfl
    have x3 := box_cell Zp4.out 3 (v := .slice p2 0 f2) rfl
    have t0 := box_cell Zs4.out 0 (v := .int .i64 0) rfl
    have t1 := box_cell Zs4.out 1 (v := .int .i64 0) rfl
    have t2 := box_cell Zs4.out 2 (v := .slice p3 0 f3) rfl
    go_wp2_with fail
    go_ret
    exact ⟨rfl, B4.out⟩
theorem clientIs_any (n : Int) (w : World) : Calls Tryz.prog 53 #[.int .i64 n] w fun e w' => e = .returned (.bool (decide (0 ≤ n ∧ n ≤ 3))) ∧ w' = w := by
  by_cases h1 : 0 ≤ n
  · by_cases h2 : n ≤ 3
    · rw [decide_eq_true (show 0 ≤ n ∧ n ≤ 3 from ⟨h1, h2⟩)]
      have e1 : decide (0 ≤ n) = true := decide_eq_true h1
      have e2 : decide (n < 4) = true := decide_eq_true (by omega)
      go_enter Tryz.func53, Tryz.ntmps53
      go_wp2
      go_ret
      exact ⟨rfl, rfl⟩
    · rw [decide_eq_false (show ¬ (0 ≤ n ∧ n ≤ 3) from fun h => h2 h.2)]
      have e1 : decide (0 ≤ n) = true := decide_eq_true h1
      have e2 : decide (n < 4) = false := decide_eq_false (by omega)
      go_enter Tryz.func53, Tryz.ntmps53
      go_wp2
      go_ret
      exact ⟨rfl, rfl⟩
  · rw [decide_eq_false (show ¬ (0 ≤ n ∧ n ≤ 3) from fun h => h1 h.1)]
    have e1 : decide (0 ≤ n) = false := decide_eq_false h1
    go_enter Tryz.func53, Tryz.ntmps53
    go_wp2
    go_ret
    exact ⟨rfl, rfl⟩
theorem countOk_any (n : Int) (w : World) : Calls Tryz.prog 54 #[.int .i64 n] w fun e w' => e = .returned (.bool (decide (0 ≤ n ∧ n ≤ 99999))) ∧ w' = w := by
  by_cases h1 : 0 ≤ n
  · by_cases h2 : n ≤ 99999
    · rw [decide_eq_true (show 0 ≤ n ∧ n ≤ 99999 from ⟨h1, h2⟩)]
      have e1 : decide (0 ≤ n) = true := decide_eq_true h1
      have e2 : decide (n ≤ 99999) = true := decide_eq_true h2
      go_enter Tryz.func54, Tryz.ntmps54
      go_wp2
      go_ret
      exact ⟨rfl, rfl⟩
    · rw [decide_eq_false (show ¬ (0 ≤ n ∧ n ≤ 99999) from fun h => h2 h.2)]
      have e1 : decide (0 ≤ n) = true := decide_eq_true h1
      have e2 : decide (n ≤ 99999) = false := decide_eq_false h2
      go_enter Tryz.func54, Tryz.ntmps54
      go_wp2
      go_ret
      exact ⟨rfl, rfl⟩
  · rw [decide_eq_false (show ¬ (0 ≤ n ∧ n ≤ 99999) from fun h => h1 h.1)]
    have e1 : decide (0 ≤ n) = false := decide_eq_false h1
    go_enter Tryz.func54, Tryz.ntmps54
    go_wp2
    go_ret
    exact ⟨rfl, rfl⟩

theorem stand_0 (w : World) : Calls Tryz.prog 42 #[.int .i64 0] w fun e w' => e = .returned (.iface 68 (.agg #[])) ∧ w' = w := by
  go_enter Tryz.func42, Tryz.ntmps42
  go_wp2
  go_ret
  exact ⟨rfl, rfl⟩
theorem stand_1 (w : World) : Calls Tryz.prog 42 #[.int .i64 1] w fun e w' => e = .returned (.iface 84 (.agg #[])) ∧ w' = w := by
  go_enter Tryz.func42, Tryz.ntmps42
  go_wp2
  go_ret
  exact ⟨rfl, rfl⟩
theorem stand_2 (w : World) : Calls Tryz.prog 42 #[.int .i64 2] w fun e w' => e = .returned (.iface 93 (.agg #[])) ∧ w' = w := by
  go_enter Tryz.func42, Tryz.ntmps42
  go_wp2
  go_ret
  exact ⟨rfl, rfl⟩
theorem stand_3 (w : World) : Calls Tryz.prog 42 #[.int .i64 3] w fun e w' => e = .returned (.iface 94 (.agg #[])) ∧ w' = w := by
  go_enter Tryz.func42, Tryz.ntmps42
  go_wp2
  go_ret
  exact ⟨rfl, rfl⟩
theorem stand_4 (w : World) : Calls Tryz.prog 42 #[.int .i64 4] w fun e w' => e = .returned (.iface 95 (.agg #[])) ∧ w' = w := by
  go_enter Tryz.func42, Tryz.ntmps42
  go_wp2
  go_ret
  exact ⟨rfl, rfl⟩
end Go.Proofs.YtbakicgdloakgaaGreatDoor
