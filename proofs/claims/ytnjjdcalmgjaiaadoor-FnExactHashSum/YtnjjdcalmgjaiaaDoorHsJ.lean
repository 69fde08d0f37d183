/- The state of a sum, by the program. -/
import Derived.Test.YtnjjdcalmgjaiaaDoorHsE
namespace Go.Proofs.YtnjjdcalmgjaiaaDoor
open Go.ChangeShapes Go.WideShapes Go.ChangeAt Go.RowKit

/-- The cells of a state. -/
def stC (s : H8) : Array Value := #[.int .u32 s.a, .int .u32 s.b, .int .u32 s.c, .int .u32 s.d, .int .u32 s.e, .int .u32 s.f, .int .u32 s.g, .int .u32 s.h]
theorem stC_one (s : H8) : (stC s).all (·.oneCell') = true := by simp [stC, Value.oneCell']
theorem stC_size (s : H8) : (stC s).size = 8 := rfl
theorem below_setRow {n : Nat} {w W : World} {g : Nat} (h : Below n w W) (hg : n ≤ g) (cs : Array Value) : Below n w (W.setRow g cs) :=
  h.trans ⟨rfl, rfl, rfl, by simp [World.setRow], fun j hj => setRow_other W g j cs (by omega)⟩
theorem info8 : (Tryd.prog.info? 41).map (·.size) = some 8 := by kernel_rfl
set_option maxHeartbeats 1000000 in
set_option maxRecDepth 100000 in
theorem hashStart_any (w : World) :
    Calls Tryd.prog 27 #[] w fun e w' => e = .returned (.agg (stC hash0)) ∧ Below w.heap.size w w' := by
  go_enter Tryd.func27, Tryd.ntmps27
  go_wp2_with fail
  refine bodyPost_ret (v := .agg (stC hash0)) ?_ rfl ⟨rfl, u_b1 _ _⟩
  exact results_cell_row Tryd.results27 _ _ w.heap.size 41 (stC hash0) (0, 0) _ (by rfl) (laid w (stC hash0) 41) Tryd.underlying41 rfl info8
set_option maxHeartbeats 8000000 in
set_option maxRecDepth 100000 in
theorem round_any (s : H8) (x : Int) (w : World) :
    Calls Tryd.prog 45 #[.agg (stC s), .int .u32 x] w fun e w' => e = .returned (.agg (stC (rnd s x))) ∧ Below w.heap.size w w' := by
  go_enter Tryd.func45, Tryd.ntmps45
  repeat ((fail_if_success (with_reducible show Code.wp _ (Code.region 1 _ _) _ _ _)); (first | go_values | go_skip | go_guarded | go_step | go_upon | go_back | (simp only [Int.not_lt, Int.not_le] at *; go_simp)))
  obtain ⟨W0, hW0⟩ : ∃ W0, W0 = (w.alloc (.cells (stC s) 41)).alloc (.cells (arrC [] 8) 41) := ⟨_, rfl⟩
  obtain ⟨X0, X1, B0⟩ := u_box2 (w := w) (c := stC s) (t := 41) (d := arrC [] 8) (s := 41) (w1 := W0) (by rw [hW0]; exact Below.refl _ _)
  refine (fun (key : ∀ V, V = W0 → Code.wp _ _ _ _ V) => key _ (by rw [hW0]; kernel_rfl)) ?_
  intro V hV
  subst hV
  have HX := hid X0
  have HR := hid X1
  have HB := hid B0
  clear X0 X1 B0 hW0
  have p0 := cell_regrown (box_cell HX.out 0 (v := .int .u32 s.a) rfl)
  have p1 := cell_regrown (box_cell HX.out 1 (v := .int .u32 s.b) rfl)
  have p2 := cell_regrown (box_cell HX.out 2 (v := .int .u32 s.c) rfl)
  have p3 := cell_regrown (box_cell HX.out 3 (v := .int .u32 s.d) rfl)
  refine wp_planzQ 16 (.pull [(0, 12)] (.step 12 (.step 13 (.step 14 (.step 15 .done))))) (by kernel_rfl) (by kernel_rfl) ?_
  intro V1 hw0
  have hbq := of_class hw0
  refine plz_pull ?_
  simp only [cutOut, List.take_succ_cons, List.take_zero, List.drop_zero, List.append_nil]
  repeat (first | go_big_quiet_step (fail) | quiet_step (fail))
  refine wpQuiet_nil ?_
  clear p0 p1 p2 p3 hw0
  refine plz_step rfl (by omega) (fun K hK => ?_)
  go_simp
  refine hK _ _ (class_of hbq) ?_
  clear hK K
  refine plz_step rfl (by omega) (fun K hK => ?_)
  go_simp
  refine hK _ _ (class_of hbq) ?_
  clear hK K
  refine plz_step rfl (by omega) (fun K hK => ?_)
  go_simp
  refine hK _ _ (class_of hbq) ?_
  clear hK K
  refine plz_step rfl (by omega) (fun K hK => ?_)
  go_simp
  refine hK _ _ (class_of hbq) ?_
  clear hK K
  refine plz_done ?_
  have HX := hid (kept HX.out hbq)
  have HR := hid (kept HR.out hbq)
  have HB := hid (HB.out.trans (hbq.mono HB.out.size))
  clear hbq
  repeat ((fail_if_success (with_reducible show Code.wp _ (Code.region 2 _ _) _ _ _)); (first | go_values | go_skip | go_guarded | go_step | go_upon | go_back | (simp only [Int.not_lt, Int.not_le] at *; go_simp)))
  have p4 := cell_regrown (box_cell HX.out 4 (v := .int .u32 s.e) rfl)
  have p5 := cell_regrown (box_cell HX.out 5 (v := .int .u32 s.f) rfl)
  have p6 := cell_regrown (box_cell HX.out 6 (v := .int .u32 s.g) rfl)
  refine wp_planzQ 12 (.pull [(0, 9)] (.step 9 (.step 10 (.step 11 .done)))) (by kernel_rfl) (by kernel_rfl) ?_
  intro V2 hw0
  have hbq := of_class hw0
  refine plz_pull ?_
  simp only [cutOut, List.take_succ_cons, List.take_zero, List.drop_zero, List.append_nil]
  repeat (first | go_big_quiet_step (fail) | quiet_step (fail))
  refine wpQuiet_nil ?_
  clear p4 p5 p6 hw0
  refine plz_step rfl (by omega) (fun K hK => ?_)
  go_simp
  refine hK _ _ (class_of hbq) ?_
  clear hK K
  refine plz_step rfl (by omega) (fun K hK => ?_)
  go_simp
  refine hK _ _ (class_of hbq) ?_
  clear hK K
  refine plz_step rfl (by omega) (fun K hK => ?_)
  go_simp
  refine hK _ _ (class_of hbq) ?_
  clear hK K
  refine plz_done ?_
  have HX := hid (kept HX.out hbq)
  have HR := hid (kept HR.out hbq)
  have HB := hid (HB.out.trans (hbq.mono HB.out.size))
  clear hbq
  have R := hid (fun W x k (n : Nat) (h0 : 0 < n) (h1 : n < 32) (hk : k = -(n : Int)) => rotl_any x k n W h0 h1 hk)
  have q7 := box_cell HX.out 7 (v := .int .u32 s.h) rfl
  go_wp2_with fail
  refine (R.out _ s.e (-6) 6 (by omega) (by omega) rfl).mono ?_
  rintro _ _ ⟨rfl, rfl⟩
  go_wp2_with fail
  refine (R.out _ s.e (-11) 11 (by omega) (by omega) rfl).mono ?_
  rintro _ _ ⟨rfl, rfl⟩
  go_wp2_with fail
  refine (R.out _ s.e (-25) 25 (by omega) (by omega) rfl).mono ?_
  rintro _ _ ⟨rfl, rfl⟩
  go_wp2_with fail
  refine (R.out _ s.a (-2) 2 (by omega) (by omega) rfl).mono ?_
  rintro _ _ ⟨rfl, rfl⟩
  go_wp2_with fail
  refine (R.out _ s.a (-13) 13 (by omega) (by omega) rfl).mono ?_
  rintro _ _ ⟨rfl, rfl⟩
  go_wp2_with fail
  refine (R.out _ s.a (-22) 22 (by omega) (by omega) rfl).mono ?_
  rintro _ _ ⟨rfl, rfl⟩
  repeat ((fail_if_success (with_reducible show Code.wp _ (Code.region 8 _ _) _ _ _)); (first | go_values | go_skip | go_guarded | go_step | go_upon | go_back | (simp only [] at *; go_simp)))
  refine wp_region_list ?_
  simp only []
  repeat ((fail_if_success (with_reducible show wpList _ _ _ [_] _ _)); (first | go_values | go_step | go_upon | go_back | go_simp))
  refine wpList_plain rfl fun K hK => ?_
  refine wp_store_row 41 _ _ rfl (w.heap.size + 1) (stC (rnd s x)) (by rfl) ?_ 41 (arrC [] 8) HR.out info8 (by rw [arrC_size]; rfl) (stC_one _) ?_
  · show Value.agg _ = _
    simp only [stC, Value.agg.injEq, Array.mk.injEq, List.cons.injEq, Value.int.injEq, true_and, and_true]
    refine ⟨?_, rfl, rfl, rfl, ?_, rfl, rfl, rfl⟩
    · simp only [rnd, rndA, rndB, rndC, show IntKind.u32.max = 4294967295 from rfl]
      omega
    · simp only [rnd, rndA, show IntKind.u32.max = 4294967295 from rfl]
      omega
  refine hK _ _ ?_
  clear hK K
  have RV := setRow_heap _ (w.heap.size + 1) _ (stC (rnd s x)) _ _ HR.out
  go_wp2_with fail
  refine bodyPost_ret (v := .agg (stC (rnd s x))) ?_ rfl ⟨rfl, below_setRow HB.out (by omega) _⟩
  exact results_cell_row Tryd.results45 _ _ (w.heap.size + 1) 41 (stC (rnd s x)) (0, 0) _ (by rfl) RV Tryd.underlying41 rfl info8
end Go.Proofs.YtnjjdcalmgjaiaaDoor
